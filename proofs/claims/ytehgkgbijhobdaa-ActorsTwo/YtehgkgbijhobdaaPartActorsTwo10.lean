/- Texts of one chain, laid one behind the other. -/
import Derived.Test.YtehgkgbijhobdaaPartActorsTwo8
import Derived.Test.YtehgkgbijhobdaaPartActorsTwo6
import Derived.Test.YtehgkgbijhobdaaPartActorsTwo9
import Derived.Handy
import Derived.WalkSpells
namespace Go.Proofs.Ytehgkgbijhobdaa
open Go.ChangeShapes Go.WideShapes Go.ChangeAt Go.RowKit
theorem heap_set_same (w : World) (b k : Nat) (cs : Array Value) (T : TypeId) (u : Value) (h : w.heap[b]? = some (.cells cs T (0, 0))) : (w.setCell ⟨b, k, none⟩ u).heap[b]? = some (.cells (cs.setIfInBounds k u) T (0, 0)) := by
  simp only [World.setCell, Array.getElem?_modify]
  rw [if_pos trivial, h]
  rfl
/-- A block with these cells. -/
def BlkA (T : TypeId) (n : Nat) (w : World) (cs : Array Value) : Prop := w.heap[n]? = some (.cells cs T (0, 0))
theorem BlkA.lt {T n w cs} (h : BlkA T n w cs) : n < w.heap.size := (Array.getElem?_eq_some_iff.1 h).1
theorem BlkA.cell {T n w cs} (h : BlkA T n w cs) {k : Nat} {x : Value} (hk : cs[k]? = some x) : w.cell? ⟨n, k, none⟩ = some x := by
  unfold BlkA at h
  simp [World.cell?, h, hk]
theorem BlkA.frozen {T n w cs} (h : BlkA T n w cs) (k : Nat) : w.frozen? ⟨n, k, none⟩ = false := by
  unfold BlkA at h
  simp [World.frozen?, h]
theorem BlkA.keep {T n w w' cs} (h : BlkA T n w cs) (hb : w'.heap[n]? = w.heap[n]?) : BlkA T n w' cs := hb.trans h
theorem BlkA.below {T n w w' cs} (h : BlkA T n w cs) (hb : Below w.heap.size w w') : BlkA T n w' cs := (hb.block n h.lt).trans h
theorem BlkA.set {T n w cs} (h : BlkA T n w cs) (k : Nat) (u : Value) : BlkA T n (w.setCell ⟨n, k, none⟩ u) (cs.setIfInBounds k u) := heap_set_same w n k _ _ _ h
theorem blkA_new (T : TypeId) (w : World) (cs : Array Value) : BlkA T w.heap.size (w.alloc (.cells cs T)) cs := by show (w.heap.push _)[w.heap.size]? = _; simp
theorem CapR.keep {base : Nat} {w w' : World} {a : Option Addr} {cap : Nat} {zs : List Int} (h : CapR base w a cap zs) (hk : ∀ x, a = some x → w'.heap[x.block]? = w.heap[x.block]?) : CapR base w' a cap zs := by
  refine ⟨h.1, ?_⟩
  rcases h.2 with h2 | ⟨g, c, cur, hv, hg, hh, r⟩
  · exact .inl h2
  · refine .inr ⟨g, c, cur, hv, hg, ?_, r⟩
    cases hv
    rw [hk _ rfl]; exact hh
theorem CapR.nil (base : Nat) (w : World) : CapR base w none 0 [] := World.ownsRow_nil _ _ _ _
/-- All old blocks but one are as they were. -/
structure But (K : Nat) (w w' : World) : Prop where
  os : w'.os = w.os
  tape : w'.tape = w.tape
  output : w'.output = w.output
  size : w.heap.size ≤ w'.heap.size
  block : ∀ k, k < w.heap.size → k ≠ K → w'.heap[k]? = w.heap[k]?
theorem But.of_below {K : Nat} {w w' : World} (h : Below w.heap.size w w') : But K w w' := ⟨h.os, h.tape, h.output, h.size, fun k hk _ => h.block k hk⟩
theorem But.trans {K : Nat} {a b c : World} (h : But K a b) (k : But K b c) : But K a c :=
  ⟨k.os.trans h.os, k.tape.trans h.tape, k.output.trans h.output, Nat.le_trans h.size k.size, fun i hi hn => (k.block i (by have := h.size; omega) hn).trans (h.block i hi hn)⟩
theorem But.set (w : World) (K k : Nat) (u : Value) : But K w (w.setCell ⟨K, k, none⟩ u) := ⟨rfl, rfl, rfl, by simp [World.setCell], fun i _ hn => Below.heap_setCell _ _ _ _ hn⟩
theorem But.below {K B : Nat} {w w' : World} (h : But K w w') (hK : B ≤ K) (hB : B ≤ w.heap.size) : Below B w w' := ⟨h.os, h.tape, h.output, h.size, fun k hk => h.block k (by omega) (by omega)⟩
def kT (t : Nat) : TypeId :=
  match t with
  | 1 => 70
  | 2 => 73
  | 3 => 75
  | 4 => 77
  | 5 => 79
  | 6 => 81
  | 7 => 83
  | 8 => 86
  | 9 => 88
  | 10 => 91
  | _ => 93
def kP (t : Nat) : TypeId :=
  match t with
  | 1 => 68
  | 2 => 71
  | 3 => 74
  | 4 => 76
  | 5 => 78
  | 6 => 80
  | 7 => 82
  | 8 => 84
  | 9 => 87
  | 10 => 89
  | _ => 92
def kCells (t : Nat) (v1 v2 v3 v4 : Value) (n : Int) (zs ks : List Int) : Array Value :=
  match t with
  | 1 => #[v1, v2, .int .i64 n, v3, v4]
  | 8 => #[v1, v2, .int .i64 n, .int .i64 (nth ks 0)]
  | 10 => #[v1, v2, .int .i64 n, .int .i64 (nth ks 0), .int .i64 (nth zs 1)]
  | _ => #[v1, v2, .int .i64 n]
theorem kCells_count : ∀ (t : Nat) (v1 v2 v3 v4 : Value) (n m : Int) (zs ks : List Int), (kCells t v1 v2 v3 v4 n zs ks).setIfInBounds 2 (.int .i64 m) = kCells t v1 v2 v3 v4 m zs ks := by
  intro t v1 v2 v3 v4 n m zs ks
  unfold kCells
  split <;> rfl
theorem kCells_get : ∀ (t : Nat) (v1 v2 v3 v4 : Value) (n : Int) (zs ks : List Int), (kCells t v1 v2 v3 v4 n zs ks)[0]? = some v1 ∧ (kCells t v1 v2 v3 v4 n zs ks)[1]? = some v2 ∧ (kCells t v1 v2 v3 v4 n zs ks)[2]? = some (.int .i64 n) := by
  intro t v1 v2 v3 v4 n zs ks
  unfold kCells
  split <;> exact ⟨rfl, rfl, rfl⟩
/-- One kind of actor, as it lies; F tells its blocks. -/
structure Kin (F : Nat → Prop) (w : World) (K t : Nat) (zs ks : List Int) (n : Nat) (a1 a2 a3 a4 : Option Addr) (c1 c2 c3 c4 : Nat) : Prop where
  blk : BlkA (kT t) K w (kCells t (.slice a1 (insS t zs).length c1) (.slice a2 (outsS t zs).length c2) (.slice a3 zs.length c3) (.slice a4 ks.length c4) n zs ks)
  ins : CapR 0 w a1 c1 (insS t zs)
  outs : CapR 0 w a2 c2 (outsS t zs)
  taps : t = 1 → CapR 0 w a3 c3 zs
  kept : t = 1 → CapR 0 w a4 c4 ks
  own : F K
  f1 : ∀ x, a1 = some x → F x.block
  f2 : ∀ x, a2 = some x → F x.block
  f3 : t = 1 → ∀ x, a3 = some x → F x.block
  f4 : t = 1 → ∀ x, a4 = some x → F x.block
  rows : (∀ x, a1 = some x → x.block ≠ K) ∧ (∀ x, a2 = some x → x.block ≠ K) ∧ (t = 1 → ∀ x, a3 = some x → x.block ≠ K) ∧ (t = 1 → ∀ x, a4 = some x → x.block ≠ K)
  some4 : t = 1 → ∃ g, a4 = some ⟨g, 0, none⟩
  tag : 1 ≤ t ∧ t ≤ 11
  ok : okS t zs = true
  keep : KeepOk t zs ks
  inr : InR zs
  low : ∀ k, F k → k < w.heap.size
def KinE (F : Nat → Prop) (w : World) (K t : Nat) (zs ks : List Int) (n : Nat) : Prop := ∃ a1 a2 a3 a4 c1 c2 c3 c4, Kin F w K t zs ks n a1 a2 a3 a4 c1 c2 c3 c4
theorem KinE.keeps {F : Nat → Prop} {w w' : World} {K t : Nat} {zs ks : List Int} {n : Nat} (h : KinE F w K t zs ks n) (hk : ∀ k, F k → w'.heap[k]? = w.heap[k]?) : KinE F w' K t zs ks n := by
  obtain ⟨a1, a2, a3, a4, c1, c2, c3, c4, h⟩ := h
  refine ⟨a1, a2, a3, a4, c1, c2, c3, c4, h.blk.keep (hk K h.own), h.ins.keep fun x hx => hk _ (h.f1 x hx), h.outs.keep fun x hx => hk _ (h.f2 x hx), fun e => (h.taps e).keep fun x hx => hk _ (h.f3 e x hx), fun e => (h.kept e).keep fun x hx => hk _ (h.f4 e x hx), h.own, h.f1, h.f2, h.f3, h.f4, h.rows, h.some4, h.tag, h.ok, h.keep, h.inr, fun k hF => ?_⟩
  have h1 := h.low k hF
  have h2 := hk k hF
  rw [Array.getElem?_eq_getElem h1] at h2
  exact (Array.getElem?_eq_some_iff.1 h2).1
theorem KinE.below {F : Nat → Prop} {w w' : World} {K t : Nat} {zs ks : List Int} {n : Nat} (h : KinE F w K t zs ks n) (hb : Below w.heap.size w w') : KinE F w' K t zs ks n :=
  h.keeps fun k hF => hb.block k (by obtain ⟨a1, a2, a3, a4, c1, c2, c3, c4, h⟩ := h; exact h.low k hF)
theorem empty_own (w : World) : (w.alloc (.cells #[] 3)).ownsRow w.heap.size 3 1 (.slice (some ⟨w.heap.size, 0, none⟩) 0 0) 0 [] :=
  ⟨rfl, .inr ⟨w.heap.size, 0, #[], rfl, Nat.le_refl _, by show (w.heap.push _)[w.heap.size]? = _; simp, Nat.le_refl _, by unfold maxLen; omega, rfl, rfl⟩⟩
set_option maxRecDepth 100000 in
set_option maxHeartbeats 400000 in
theorem clone_any (a : Option Addr) (zs : List Int) (len cap : Nat) (w : World) (hl : zs.length = len) (hr : len * 8 ≤ 140737488351232) (hn : a = none → len = 0 ∧ cap = 0) (h : At w a zs) :
    Calls Try.prog 26 #[.slice a len cap] w (RowEnd w zs) := by
  obtain ⟨i0, hi, hz0, hz1, hz2⟩ := info_parts Try.info3
  cases a with
  | none =>
    obtain ⟨rfl, rfl⟩ := hn rfl
    have e : zs = [] := List.eq_nil_of_length_eq_zero hl
    subst e
    have q0 := Lib.run_eql_slice_nil (P := Try.prog) w 22 3 none 0 0 0 0 Try.underlying22
    go_enter Try.func26, Try.ntmps26
    go_wp2
    go_ret
    exact ⟨none, 0, rfl, World.ownsRow_nil _ _ _ _, Below.refl _ _⟩
  | some ad =>
    have EO := hidden6 (empty_own w)
    have HA := hidden6 (h.below ((Below.refl w.heap.size w).alloc (Nat.le_refl _) (.cells #[] 3)))
    clear h
    have q0 := Lib.run_eql_slice_nil (P := Try.prog) w 22 3 (some ad) len cap 0 0 Try.underlying22
    go_enter Try.func26, Try.ntmps26
    go_wp2_with (at_builtin; refine wpList_append_own _ rfl _ _ 22 rfl w.heap.size 3 i0 (.int .i64 0) 1 8 Try.underlying22 hi hz0 hz1 hz2 rfl (by decide) _ 0 [] rfl EO.out ad len cap (zs.map (Value.int .i64)) rfl (by simp [hl]) (lies_new HA.out) (ints_oneCell _ _) ?c3 ?c4 (by simp) ?_)
    case c3 => unfold maxLen; omega
    case c4 => omega
    intro v' w1 hown hgrow _
    have hown' : w1.ownsRow w.heap.size 3 1 v' len (zs.map (Value.int .i64)) := by simpa using hown
    obtain ⟨a', cap', hv, -, hat', hc', hn', hb'⟩ := owns_at (n := len) (zs := zs) hown'
    rw [hv]
    go_wp2
    go_ret
    refine ⟨a', cap', by rw [hl]; rfl, ?_, ((Below.refl _ _).alloc (Nat.le_refl _) _).grown hgrow (by simp) (fun k h => by cases h; exact Nat.le_refl _)⟩
    unfold CapR
    rw [hl, ← hv]
    exact hown'
/-- A row of rows, as it lies. -/
def AtL (w : World) (a : Option Addr) (I : List (List Int)) : Prop :=
  I = [] ∨ ∃ b off, a = some ⟨b, off, none⟩ ∧ ∀ k, k < I.length → ∃ x c, w.cell? ⟨b, off + k, none⟩ = some (.slice x (nthL I k).length c) ∧ At w x (nthL I k)
structure ArgL (w : World) (a : Option Addr) (len : Nat) (I : List (List Int)) : Prop where
  size : I.length = len
  lies : AtL w a I
  fits : ∀ k, InR (nthL I k)
theorem AtL.block {w w' : World} {a : Option Addr} {I : List (List Int)} (h : AtL w a I) (hb : Below w.heap.size w w') : AtL w' a I := by
  rcases h with h | ⟨b, off, rfl, hc⟩
  · exact .inl h
  · refine .inr ⟨b, off, rfl, fun k hk => ?_⟩
    obtain ⟨x, c, h1, h2⟩ := hc k hk
    exact ⟨x, c, by rw [hb.cell (block_lt_of_cell h1)]; exact h1, h2.below hb⟩
theorem ArgL.below {w w' : World} {a : Option Addr} {len : Nat} {I : List (List Int)} (h : ArgL w a len I) (hb : Below w.heap.size w w') : ArgL w' a len I := ⟨h.size, h.lies.block hb, h.fits⟩
theorem tok_cell {w : World} {a : Option Addr} {I : List (List Int)} {i j : Nat} (hI : AtL w a I) (hi : i < I.length) (hj : j < (nthL I i).length) :
    ∃ b off xb xo c, a = some ⟨b, off, none⟩ ∧ w.cell? ⟨b, off + i, none⟩ = some (.slice (some ⟨xb, xo, none⟩) (nthL I i).length c) ∧ w.cell? ⟨xb, xo + j, none⟩ = some (.int .i64 (nth (nthL I i) j)) := by
  rcases hI with h | ⟨b, off, rfl, hc⟩
  · rw [h] at hi; simp at hi
  obtain ⟨x, c, h1, h2⟩ := hc i hi
  rcases h2 with h | ⟨xb, xo, rfl, h3⟩
  · rw [h] at hj; simp at hj
  exact ⟨b, off, xb, xo, c, rfl, h1, h3 j hj⟩
theorem takes_len {t : Nat} {zs : List Int} {I : List (List Int)} (h : takesS t zs I = true) : I.length = (insS t zs).length := by
  have := congrArg List.length (of_decide_eq_true h)
  simpa using this
theorem map_nth {I : List (List Int)} {k : Nat} (h : k < I.length) : nth (I.map fun l => (l.length : Int)) k = ((nthL I k).length : Int) := by
  rw [nthZ_get (by simpa using h), nthL_get h]
  simp
theorem takes_nth {t : Nat} {zs : List Int} {I : List (List Int)} (h : takesS t zs I = true) {k : Nat} (hk : k < I.length) : ((nthL I k).length : Int) = nth (insS t zs) k := by
  rw [← of_decide_eq_true h, map_nth hk]
/-- Rows that a call gives. -/
structure OutT (B : Nat) (w : World) (A : Nat → Option Addr) (C : Nat → Nat) (x : Option Addr) (O : List (List Int)) : Prop where
  rows : ∀ j, j < O.length → CapR B w (A j) (C j) (nthL O j)
  apart : ∀ j k y z, j < O.length → k < O.length → j ≠ k → A j = some y → A k = some z → y.block ≠ z.block
  tab : O = [] ∨ ∃ g, x = some ⟨g, 0, none⟩ ∧ B ≤ g ∧ g < w.heap.size ∧ (∀ j, j < O.length → w.cell? ⟨g, j, none⟩ = some (.slice (A j) (nthL O j).length (C j))) ∧ ∀ j y, j < O.length → A j = some y → y.block ≠ g
theorem OutT.keep {B : Nat} {w w' : World} {A : Nat → Option Addr} {C : Nat → Nat} {x : Option Addr} {O : List (List Int)} (h : OutT B w A C x O) (hk : ∀ k, B ≤ k → k < w.heap.size → w'.heap[k]? = w.heap[k]?) (hs : w.heap.size ≤ w'.heap.size) : OutT B w' A C x O := by
  refine ⟨fun j hj => (h.rows j hj).keep fun y hy => hk _ ((h.rows j hj).lt y hy).1 ((h.rows j hj).lt y hy).2, h.apart, ?_⟩
  rcases h.tab with h0 | ⟨g, hx, h1, h2, h3, h4⟩
  · exact .inl h0
  · exact .inr ⟨g, hx, h1, by omega, fun j hj => by rw [World.cell?_of_block (w := w) (w' := w') (a := ⟨g, j, none⟩) (hk g h1 h2)]; exact h3 j hj, h4⟩
theorem OutT.at {B : Nat} {w : World} {A : Nat → Option Addr} {C : Nat → Nat} {x : Option Addr} {O : List (List Int)} (h : OutT B w A C x O) : AtL w x O := by
  rcases h.tab with h0 | ⟨g, hx, h1, h2, h3, h4⟩
  · exact .inl h0
  · exact .inr ⟨g, 0, hx, fun k hk => ⟨A k, C k, by rw [Nat.zero_add]; exact h3 k hk, (h.rows k hk).at⟩⟩
theorem OutT.mono {B B' : Nat} {w : World} {A : Nat → Option Addr} {C : Nat → Nat} {x : Option Addr} {O : List (List Int)} (h : OutT B w A C x O) (hB : B' ≤ B) : OutT B' w A C x O := by
  refine ⟨fun j hj => (h.rows j hj).mono hB, h.apart, ?_⟩
  rcases h.tab with h0 | ⟨g, hx, h1, r⟩
  · exact .inl h0
  · exact .inr ⟨g, hx, by omega, r⟩
theorem outT_nil (B : Nat) (w : World) : OutT B w (fun _ => none) (fun _ => 0) none [] := ⟨fun j hj => by simp at hj, fun j k y z hj => by simp at hj, .inl rfl⟩
/-- How a kind's firing ends. -/
def GaveK (F : Nat → Prop) (w : World) (K t : Nat) (zs ks : List Int) (n : Nat) (I : List (List Int)) (e : Ending) (w' : World) : Prop :=
  match giveS t zs ks I with
  | some p => ∃ x c A C F', e = .returned (.tuple #[.slice x p.1.length c, .bool true]) ∧ OutT w.heap.size w' A C x p.1 ∧ KinE F' w' K t zs p.2 n ∧ (∀ k, F' k → F k ∨ (w.heap.size ≤ k ∧ ∀ j y, j < p.1.length → A j = some y → y.block ≠ k)) ∧ (∀ k, F k → F' k) ∧ But K w w'
  | none => (∃ v, e = .returned (.tuple #[v, .bool false])) ∧ KinE F w' K t zs ks n ∧ But K w w'
theorem gave_plain {F : Nat → Prop} {w w' : World} {K t : Nat} {zs ks : List Int} {n : Nat} {I : List (List Int)} {O : List (List Int)} {x : Option Addr} {c : Nat} {A : Nat → Option Addr} {C : Nat → Nat} (hg : giveS t zs ks I = some (O, ks)) (hk : KinE F w K t zs ks n) (hO : OutT w.heap.size w' A C x O) (hb : Below w.heap.size w w') : GaveK F w K t zs ks n I (.returned (.tuple #[.slice x O.length c, .bool true])) w' := by
  unfold GaveK
  rw [hg]
  exact ⟨x, c, A, C, F, rfl, hO, hk.below hb, fun k h => .inl h, fun k h => h, But.of_below hb⟩
theorem gave_none {F : Nat → Prop} {w w' : World} {K t : Nat} {zs ks : List Int} {n : Nat} {I : List (List Int)} {v : Value} (hg : giveS t zs ks I = none) (hk : KinE F w K t zs ks n) (hb : Below w.heap.size w w') : GaveK F w K t zs ks n I (.returned (.tuple #[v, .bool false])) w' := by
  unfold GaveK
  rw [hg]
  exact ⟨⟨v, rfl⟩, hk.below hb, But.of_below hb⟩
theorem drew_size (w : World) (q : Nat) : (w.drewN q).heap.size = w.heap.size := by
  have h1 := (bdrew (Below.refl w.heap.size w) q).size
  have h2 : (w.drewN q).heap = w.heap := by
    induction q with
    | zero => rfl
    | succ q ih => first | exact ih | (simp [World.drewN] at ih ⊢)
  rw [h2]
theorem drew_below {w w' : World} {q : Nat} (h : Below (w.drewN q).heap.size (w.drewN q) w') : Below w.heap.size (w.drewN q) w' := by rw [drew_size] at h; exact h
theorem gave_drew {F : Nat → Prop} {w w' : World} {K t q : Nat} {zs ks : List Int} {n : Nat} {I : List (List Int)} {O : List (List Int)} {x : Option Addr} {c : Nat} {A : Nat → Option Addr} {C : Nat → Nat} (hg : giveS t zs ks I = some (O, ks)) (hk : KinE F w K t zs ks n) (hO : OutT (w.drewN q).heap.size w' A C x O) (hb : Below (w.drewN q).heap.size (w.drewN q) w') : GaveK F w K t zs ks n I (.returned (.tuple #[.slice x O.length c, .bool true])) w' := by
  rw [drew_size] at hO
  exact gave_plain hg hk hO ((bdrew (Below.refl _ _) q).trans (drew_below hb))
theorem capR_one (w : World) (x : Int) : CapR w.heap.size (w.alloc (.cells #[.int .i64 x] 3)) (some ⟨w.heap.size, 0, none⟩) 1 [x] :=
  ⟨rfl, .inr ⟨w.heap.size, 1, #[.int .i64 x], rfl, Nat.le_refl _, by show (w.heap.push _)[w.heap.size]? = _; simp, Nat.le_refl _, by unfold maxLen; omega, rfl, rfl⟩⟩
def SingleEnd (w : World) (x : Int) (e : Ending) (w' : World) : Prop := ∃ g A C, e = .returned (.slice (some ⟨g, 0, none⟩) 1 1) ∧ OutT w.heap.size w' A C (some ⟨g, 0, none⟩) [[x]] ∧ Below w.heap.size w w'
theorem single_out (w : World) (zs : List Int) (o : Obj) (g c : Nat) (h1 : CapR w.heap.size (w.alloc o) (some ⟨g, 0, none⟩) c zs) : OutT w.heap.size ((w.alloc o).alloc (.cells #[.slice (some ⟨g, 0, none⟩) zs.length c] 22)) (fun _ => some ⟨g, 0, none⟩) (fun _ => c) (some ⟨(w.alloc o).heap.size, 0, none⟩) [zs] := by
  have hb := (Below.refl (w.alloc o).heap.size (w.alloc o)).alloc (Nat.le_refl _) (.cells #[.slice (some ⟨g, 0, none⟩) zs.length c] 22)
  refine ⟨fun j hj => ?_, fun j k y z hj hk hn => ?_, .inr ⟨_, rfl, by simp, by simp, fun j hj => ?_, fun j y _ hy => ?_⟩⟩
  · match j, hj with
    | 0, _ => exact h1.later hb
  · simp at hj hk; omega
  · match j, hj with
    | 0, _ => exact (blkA_new 22 (w.alloc o) #[.slice (some ⟨g, 0, none⟩) zs.length c]).cell rfl
  · cases hy
    have := (h1.lt _ rfl).2
    simp only at this ⊢
    omega
theorem single_any (x : Int) (w : World) : Calls Try.prog 68 #[.int .i64 x] w (SingleEnd w x) := by
  have h1 := single_out w [x] _ _ _ (capR_one w x)
  simp only [World.size_alloc] at h1
  have H := hidden6 h1
  clear h1
  go_enter Try.func68, Try.ntmps68
  go_wp2
  go_ret
  exact ⟨w.heap.size + 1, fun _ => some ⟨w.heap.size, 0, none⟩, fun _ => 1, rfl, H.out, ((Below.refl _ _).alloc (Nat.le_refl _) _).alloc (by simp) _⟩
set_option maxRecDepth 100000 in
set_option maxHeartbeats 1000000 in
theorem takes_any (K : Nat) (w : World) (a1 : Option Addr) (c1 : Nat) (P : List Int) (a : Option Addr) (len cap : Nat) (I : List (List Int)) (hc0 : w.cell? ⟨K, 0, none⟩ = some (.slice a1 P.length c1)) (h1 : At w a1 P) (hm : P.length ≤ 1024) (hl : I.length = len) (hI : AtL w a I) :
    Calls Try.prog 65 #[.pointer (some ⟨K, 0, none⟩), .slice a len cap] w fun e w' => e = .returned (.bool (decide (I.map (fun l => (l.length : Int)) = P))) ∧ w' = w := by
  obtain ⟨r, hr⟩ : ∃ r, decide (I.map (fun l => (l.length : Int)) = P) = r := ⟨_, rfl⟩
  rw [hr]
  by_cases he : len = P.length
  · have HT : Hid ((∀ j, j < len → ((nthL I j).length : Int) = nth P j) → r = true) := fun h => by
      rw [← hr]
      refine decide_eq_true (list_nth (by simp; omega) fun k hk => ?_)
      have hk' : k < I.length := by simpa using hk
      rw [map_nth hk']
      exact h k (by omega)
    have HF : Hid (∀ j, j < len → ((nthL I j).length : Int) ≠ nth P j → r = false) := fun j hj hn => by
      rw [← hr]
      refine decide_eq_false fun h => hn ?_
      rw [← h, map_nth (by omega)]
    have HI := hidden6 hI
    have H1 := hidden6 h1
    have HP := hidden6 he
    rw [← he] at hc0 hm
    clear hr hI h1
    have hee : ((len : Int) != (len : Int)) = false := by simp
    go_enter Try.func65, Try.ntmps65
    go_wp2
    go_loop [20] (fun i => ∃ k : Nat, k ≤ len ∧ i = .int .i64 k ∧ ∀ j, j < k → ((nthL I j).length : Int) = nth P j) (fun i => len - (intOf i).toNat)
    case atStart => exact ⟨0, Nat.zero_le _, rfl, fun j hj => by omega⟩
    case round =>
      obtain ⟨k, hk, rfl, hall⟩ := hrel
      have HA := hidden6 hall
      clear hall
      by_cases hlt : k < len
      · have hki : (k : Int) < (len : Int) := by omega
        rcases H1.out with h0 | ⟨b1, o1, rfl, hc1⟩
        · have := HP.out; rw [h0] at this; simp at this; omega
        rcases HI.out with h0 | ⟨b2, o2, rfl, hc2⟩
        · rw [h0] at hl; simp at hl; omega
        have g1 := hc1 k (by have := HP.out; omega)
        obtain ⟨x, c, g2, -⟩ := hc2 k (by omega)
        have HFk := hidden6 (HF.out k hlt)
        have HAk : Hid (((nthL I k).length : Int) = nth P k → ∀ j, j < k + 1 → ((nthL I j).length : Int) = nth P j) := fun h j hj => by
          by_cases e : j = k
          · subst e; exact h
          · exact HA.out j (by omega)
        clear hc1 hc2 HA
        generalize (nthL I k).length = m at *
        generalize nth P k = p at *
        by_cases hq : (m : Int) = p
        · have hqq : ((m : Int) != p) = false := by simpa using hq
          have HN := hidden6 (HAk.out hq)
          clear hq
          go_wp2
          go_round
          case rel => exact ⟨k + 1, by omega, by go_num, HN.out⟩
          case measure => simp [intOf]; omega
        · have hqq : ((m : Int) != p) = true := by simpa using hq
          obtain rfl : r = false := HFk.out hq
          go_wp2
          go_ret
          exact ⟨rfl, rfl⟩
      · obtain rfl : r = true := HT.out fun j hj => HA.out j (by omega)
        have hki : ¬ (k : Int) < (len : Int) := by omega
        go_wp2
        go_ret
        exact ⟨rfl, rfl⟩
  · have hf : r = false := by
      rw [← hr]
      refine decide_eq_false fun h => he ?_
      have := congrArg List.length h
      simp at this
      omega
    have hee : ((len : Int) != (P.length : Int)) = true := by simp; omega
    clear hI h1 hr
    subst hf
    go_enter Try.func65, Try.ntmps65
    go_wp2
    go_ret
    exact ⟨rfl, rfl⟩
set_option maxRecDepth 100000 in
theorem count_any (K n : Nat) (w : World) (hc : w.cell? ⟨K, 2, none⟩ = some (.int .i64 (n : Int))) (hf : w.frozen? ⟨K, 2, none⟩ = false) (hn : n < 4611686018427387904) :
    Calls Try.prog 61 #[.pointer (some ⟨K, 0, none⟩)] w fun e w' => e = .returned (.tuple #[]) ∧ w' = w.setCell ⟨K, 2, none⟩ (.int .i64 ((n + 1 : Nat) : Int)) := by
  go_enter Try.func61, Try.ntmps61
  go_wp2
  go_returns
  exact ⟨rfl, by congr 1⟩
theorem timesK_any (K n : Nat) (w : World) (hc : w.cell? ⟨K, 2, none⟩ = some (.int .i64 (n : Int))) : Calls Try.prog 66 #[.pointer (some ⟨K, 0, none⟩)] w fun e w' => e = .returned (.int .i64 (n : Int)) ∧ w' = w := by
  go_enter Try.func66, Try.ntmps66
  go_wp2
  go_ret
  exact ⟨rfl, rfl⟩
theorem keeps_none (p : Value) (w : World) : Calls Try.prog 73 #[p] w fun e w' => e = .returned (.slice none 0 0) ∧ w' = w := by
  go_enter Try.func73, Try.ntmps73
  go_wp2
  go_ret
  exact ⟨rfl, rfl⟩
theorem keeps_sum (K : Nat) (x : Int) (w : World) (hc : w.cell? ⟨K, 3, none⟩ = some (.int .i64 x)) : Calls Try.prog 81 #[.pointer (some ⟨K, 0, none⟩)] w (RowEnd w [x]) := by
  have H := hidden6 (capR_one w x)
  go_enter Try.func81, Try.ntmps81
  go_wp2
  go_ret
  exact ⟨_, _, rfl, H.out, (Below.refl _ _).alloc (Nat.le_refl _) _⟩
theorem keeps_tick (K : Nat) (x : Int) (w : World) (hc : w.cell? ⟨K, 3, none⟩ = some (.int .i64 x)) : Calls Try.prog 84 #[.pointer (some ⟨K, 0, none⟩)] w (RowEnd w [x]) := by
  have H := hidden6 (capR_one w x)
  go_enter Try.func84, Try.ntmps84
  go_wp2
  go_ret
  exact ⟨_, _, rfl, H.out, (Below.refl _ _).alloc (Nat.le_refl _) _⟩
theorem keeps_filter (K : Nat) (a : Option Addr) (c : Nat) (ks : List Int) (w : World) (hc : w.cell? ⟨K, 4, none⟩ = some (.slice a ks.length c)) (hr : ks.length ≤ 1024) (hn : ∃ g, a = some ⟨g, 0, none⟩) (h : At w a ks) : Calls Try.prog 63 #[.pointer (some ⟨K, 0, none⟩)] w (RowEnd w ks) := by
  have H := hidden6 (clone_any a ks ks.length c w rfl (by omega) (fun e => by obtain ⟨g, hg⟩ := hn; rw [hg] at e; cases e) h)
  unfold RowEnd at H ⊢
  clear h hn
  go_enter Try.func63, Try.ntmps63
  go_wp2_with (go_at_call 26; (with_reducible refine H.out.mono ?_); rintro e w1 ⟨x, c1, rfl, hx, b1⟩)
  go_ret
  exact ⟨_, _, rfl, hx, b1⟩
theorem ins_pos (t : Nat) (ht : 1 ≤ t ∧ t ≤ 11) (zs : List Int) (hk : okS t zs = true) : (insS t zs).length ≤ 16 ∧ ∀ k, k < (insS t zs).length → 1 ≤ nth (insS t zs) k ∧ nth (insS t zs) k ≤ 1024 := by
  have one : ∀ x : Int, 1 ≤ x ∧ x ≤ 1024 → ([x] : List Int).length ≤ 16 ∧ ∀ k, k < ([x] : List Int).length → 1 ≤ nth [x] k ∧ nth [x] k ≤ 1024 := fun x hx => ⟨by simp, fun k hk => by
    match k, hk with
    | 0, _ => exact hx⟩
  have many : ∀ n x : Int, n ≤ 16 → 1 ≤ x ∧ x ≤ 1024 → (rep n x).length ≤ 16 ∧ ∀ k, k < (rep n x).length → 1 ≤ nth (rep n x) k ∧ nth (rep n x) k ≤ 1024 := fun n x hn hx => ⟨by unfold rep; simp; omega, fun k hk => by
    unfold rep at hk ⊢
    rw [nth_rep (by simpa using hk)]; exact hx⟩
  revert hk
  revert t
  refine eleven ?_ ?_ ?_ ?_ ?_ ?_ ?_ ?_ ?_ ?_ ?_
  · exact fun _ => one 1 (by decide)
  · exact fun _ => one 1 (by decide)
  · intro hk; have := (ok_one rfl hk).2; exact one _ (by omega)
  · intro hk; have := (ok_two rfl hk).2; exact many _ _ this.1.2 (by omega)
  · intro hk; have := (ok_two rfl hk).2; exact one _ (mul_bound this.1 this.2)
  · intro hk; have := (ok_one rfl hk).2; exact many _ _ this.2 (by decide)
  · exact fun _ => ⟨by show (2 : Nat) ≤ 16; decide, fun k hk => by
      match k, hk with
      | 0, _ => exact (by decide : (1 : Int) ≤ 1 ∧ (1 : Int) ≤ 1024)
      | 1, _ => exact (by decide : (1 : Int) ≤ 1 ∧ (1 : Int) ≤ 1024)⟩
  · exact fun _ => one 1 (by decide)
  · exact fun _ => one 1 (by decide)
  · exact fun _ => ⟨by show (0 : Nat) ≤ 16; decide, fun k hk => by simp [insS] at hk⟩
  · intro hk; have := (ok_one rfl hk).2; exact one _ (by omega)
theorem first_tok {w : World} {t : Nat} {zs : List Int} {a : Option Addr} {len : Nat} {I : List (List Int)} (hA : ArgL w a len I) (ht : takesS t zs I = true) (h0 : 0 < (insS t zs).length) (h1 : 1 ≤ nth (insS t zs) 0) :
    ∃ b off xb xo m c, a = some ⟨b, off, none⟩ ∧ 0 < len ∧ 0 < m ∧ (nthL I 0).length = m ∧ w.cell? ⟨b, off, none⟩ = some (.slice (some ⟨xb, xo, none⟩) m c) ∧ w.cell? ⟨xb, xo, none⟩ = some (.int .i64 (nth (nthL I 0) 0)) := by
  have hl := takes_len ht
  have h2 := takes_nth ht (k := 0) (by omega)
  obtain ⟨b, off, xb, xo, c, e, g1, g2⟩ := tok_cell hA.lies (i := 0) (j := 0) (by omega) (by omega)
  have := hA.size
  exact ⟨b, off, xb, xo, _, c, e, by omega, by omega, rfl, g1, g2⟩
theorem keep_start (t : Nat) (ht : 1 ≤ t ∧ t ≤ 11) (zs : List Int) (hk : okS t zs = true) (hz : InR zs) : KeepOk t zs (keepS t zs) := by
  have none : ∀ k : Nat, -9223372036854775808 ≤ nth [] k ∧ nth [] k ≤ 9223372036854775807 := fun k => inR0 k
  have one : ∀ x : Int, (-9223372036854775808 ≤ x ∧ x ≤ 9223372036854775807) → InR [x] := fun x hx k => by
    cases k with
    | zero => exact hx
    | succ k => rw [nth_none (by simp)]; decide
  revert hk
  revert t
  refine eleven ?_ ?_ ?_ ?_ ?_ ?_ ?_ ?_ ?_ ?_ ?_
  · intro hk
    have h1 := wB_bound (show wB (zs.length : Int) 16 = true from hk)
    refine ⟨fun k => ?_, fun _ => by show (List.replicate _ _).length + 1 = _; simp; omega, (fun e => by omega), fun e => absurd rfl e⟩
    show _ ≤ nth (List.replicate _ _) k ∧ nth (List.replicate _ _) k ≤ _
    by_cases hk : k < zs.length - 1
    · rw [nth_rep hk]; decide
    · rw [nth_none (by simp; omega)]; decide
  · exact fun _ => ⟨none, (fun e => by omega), (fun e => by omega), fun _ _ _ => rfl⟩
  · exact fun _ => ⟨none, (fun e => by omega), (fun e => by omega), fun _ _ _ => rfl⟩
  · exact fun _ => ⟨none, (fun e => by omega), (fun e => by omega), fun _ _ _ => rfl⟩
  · exact fun _ => ⟨none, (fun e => by omega), (fun e => by omega), fun _ _ _ => rfl⟩
  · exact fun _ => ⟨none, (fun e => by omega), (fun e => by omega), fun _ _ _ => rfl⟩
  · exact fun _ => ⟨none, (fun e => by omega), (fun e => by omega), fun _ _ _ => rfl⟩
  · exact fun _ => ⟨one 0 (by decide), (fun e => by omega), (fun _ => rfl), fun _ e => absurd rfl e⟩
  · exact fun _ => ⟨none, (fun e => by omega), (fun e => by omega), fun _ _ _ => rfl⟩
  · exact fun _ => ⟨one _ (hz 0), (fun e => by omega), (fun _ => rfl), fun _ _ e => absurd rfl e⟩
  · exact fun _ => ⟨none, (fun e => by omega), (fun e => by omega), fun _ _ _ => rfl⟩
theorem kin_made {B : Nat} {V : World} {T : Nat} {zs : List Int} {a1 a2 a3 a4 : Option Addr} {c1 c2 c3 c4 : Nat} {cs : Array Value} (hcs : cs = kCells T (.slice a1 (insS T zs).length c1) (.slice a2 (outsS T zs).length c2) (.slice a3 zs.length c3) (.slice a4 (keepS T zs).length c4) ((0 : Nat) : Int) zs (keepS T zs)) (h1 : CapR B V a1 c1 (insS T zs)) (h2 : CapR B V a2 c2 (outsS T zs)) (h3 : T = 1 → CapR B V a3 c3 zs) (h4 : T = 1 → CapR B V a4 c4 (keepS T zs)) (h5 : T = 1 → ∃ g, a4 = some ⟨g, 0, none⟩) (hB : B ≤ V.heap.size) (ht : 1 ≤ T ∧ T ≤ 11) (ok : okS T zs = true) (inr : InR zs) :
    ∃ F, KinE F (V.alloc (.cells cs (kT T))) V.heap.size T zs (keepS T zs) 0 ∧ ∀ k, F k → B ≤ k := by
  have hb := (Below.refl V.heap.size V).alloc (Nat.le_refl _) (.cells cs (kT T))
  have ne : ∀ {a : Option Addr} {c : Nat} {l : List Int}, CapR B V a c l → ∀ x, a = some x → x.block ≠ V.heap.size := fun h x hx => by have := (h.lt x hx).2; omega
  refine ⟨fun k => k = V.heap.size ∨ (∃ x, a1 = some x ∧ x.block = k) ∨ (∃ x, a2 = some x ∧ x.block = k) ∨ (T = 1 ∧ ((∃ x, a3 = some x ∧ x.block = k) ∨ (∃ x, a4 = some x ∧ x.block = k))), ⟨a1, a2, a3, a4, c1, c2, c3, c4, ?_, ((h1.later hb).mono (Nat.zero_le _)), ((h2.later hb).mono (Nat.zero_le _)), (fun e => ((h3 e).later hb).mono (Nat.zero_le _)), (fun e => ((h4 e).later hb).mono (Nat.zero_le _)), .inl rfl, (fun x hx => .inr (.inl ⟨x, hx, rfl⟩)), (fun x hx => .inr (.inr (.inl ⟨x, hx, rfl⟩))), (fun e x hx => .inr (.inr (.inr ⟨e, .inl ⟨x, hx, rfl⟩⟩))), (fun e x hx => .inr (.inr (.inr ⟨e, .inr ⟨x, hx, rfl⟩⟩))), ⟨ne h1, ne h2, fun e => ne (h3 e), fun e => ne (h4 e)⟩, h5, ht, ok, keep_start T ht zs ok inr, inr, ?_⟩, ?_⟩
  · rw [hcs]; exact blkA_new _ _ _
  · intro k hk
    have hs : (V.alloc (.cells cs (kT T))).heap.size = V.heap.size + 1 := by simp
    rcases hk with rfl | ⟨x, hx, rfl⟩ | ⟨x, hx, rfl⟩ | ⟨e, ⟨x, hx, rfl⟩ | ⟨x, hx, rfl⟩⟩
    · omega
    · have := (h1.lt x hx).2; omega
    · have := (h2.lt x hx).2; omega
    · have := ((h3 e).lt x hx).2; omega
    · have := ((h4 e).lt x hx).2; omega
  · intro k hk
    rcases hk with rfl | ⟨x, hx, rfl⟩ | ⟨x, hx, rfl⟩ | ⟨e, ⟨x, hx, rfl⟩ | ⟨x, hx, rfl⟩⟩
    · exact hB
    · exact (h1.lt x hx).1
    · exact (h2.lt x hx).1
    · exact ((h3 e).lt x hx).1
    · exact ((h4 e).lt x hx).1
def MadeEnd (B : Nat) (w : World) (t : Nat) (zs : List Int) (e : Ending) (w' : World) : Prop := ∃ K F, e = .returned (.iface (kP t) (.pointer (some ⟨K, 0, none⟩))) ∧ KinE F w' K t zs (keepS t zs) 0 ∧ (∀ k, F k → B ≤ k) ∧ B ≤ K ∧ Below w.heap.size w w'
def MkS (B : Nat) (u : World) (zs : List Int) (v : Value) : Prop := ∃ g c, v = .slice (some ⟨g, 0, none⟩) zs.length c ∧ CapR B u (some ⟨g, 0, none⟩) c zs
theorem MkS.later {B : Nat} {u u' : World} {zs : List Int} {v : Value} (h : MkS B u zs v) (hb : Below u.heap.size u u') : MkS B u' zs v := by
  obtain ⟨a, c, e, h⟩ := h
  exact ⟨a, c, e, h.later hb⟩
theorem made_alloc (w : World) (N : Nat) (h : N ≤ 1024) : CapR w.heap.size (w.alloc (.cells (madeCells #[.int .i64 0] N) 3)) (some ⟨w.heap.size, 0, none⟩) N (List.replicate N 0) := by
  refine ⟨by simp, .inr ⟨w.heap.size, N, madeCells #[.int .i64 0] N, by simp, Nat.le_refl _, by show (w.heap.push _)[w.heap.size]? = _; simp, by simp, by unfold maxLen; omega, by simp [madeCells], ?_⟩⟩
  apply List.ext_getElem?
  intro k
  by_cases hk : k < N <;> simp [madeCells, hk, Nat.mod_one]
set_option maxRecDepth 100000 in
set_option maxHeartbeats 2000000 in
theorem made_2 (B : Nat) (w : World) (a1 a2 : Option Addr) (c1 c2 : Nat) (zs : List Int) (a : Option Addr) (len cap : Nat) (h1 : CapR B w a1 c1 (insS 2 zs)) (h2 : CapR B w a2 c2 (outsS 2 zs)) (hB : B ≤ w.heap.size) (ok : okS 2 zs = true) (inr : InR zs) (hl : zs.length = len) (hA : At w a zs) (hn : a = none → len = 0 ∧ cap = 0) :
    Calls Try.prog 14 #[.int .u8 2, .agg #[.slice a1 (insS 2 zs).length c1, .slice a2 (outsS 2 zs).length c2, .int .i64 0], .slice a len cap] w (MadeEnd B w 2 zs) := by
  have u1 := hA
  have u2 := hn
  have u3 := hl
  obtain ⟨l1, e1⟩ : ∃ l, (insS 2 zs).length = l := ⟨_, rfl⟩
  obtain ⟨l2, e2⟩ : ∃ l, (outsS 2 zs).length = l := ⟨_, rfl⟩
  rw [e1, e2]
  have E1 := hidden6 e1
  have E2 := hidden6 e2
  have H1 := hidden6 h1
  have H2 := hidden6 h2
  have OK := hidden6 ok
  have IR := hidden6 inr
  clear u1 u2 u3 hA hn hl e1 e2 h1 h2 ok inr
  go_enter Try.func14, Try.ntmps14
  go_wp2
  go_ret
  have b1 := (Below.refl w.heap.size w).alloc (Nat.le_refl _) (.cells #[.slice a1 l1 c1, .slice a2 l2 c2, .int .i64 0] 53)
  obtain ⟨F, hF, hFB⟩ := kin_made (T := 2) (zs := zs) (a3 := none) (a4 := none) (c3 := 0) (c4 := 0) (cs := #[.slice a1 l1 c1, .slice a2 l2 c2, .int .i64 0]) (by rw [E1.out, E2.out]; rfl) (H1.out.later b1) (H2.out.later b1) (fun e => by omega) (fun e => by omega) (fun e => by omega) (by simp; omega) (by decide) OK.out IR.out
  simp only [World.size_alloc] at hF
  exact ⟨_, F, rfl, hF, hFB, by omega, b1.alloc (by simp) _⟩
set_option maxRecDepth 100000 in
set_option maxHeartbeats 2000000 in
theorem made_3 (B : Nat) (w : World) (a1 a2 : Option Addr) (c1 c2 : Nat) (zs : List Int) (a : Option Addr) (len cap : Nat) (h1 : CapR B w a1 c1 (insS 3 zs)) (h2 : CapR B w a2 c2 (outsS 3 zs)) (hB : B ≤ w.heap.size) (ok : okS 3 zs = true) (inr : InR zs) (hl : zs.length = len) (hA : At w a zs) (hn : a = none → len = 0 ∧ cap = 0) :
    Calls Try.prog 14 #[.int .u8 3, .agg #[.slice a1 (insS 3 zs).length c1, .slice a2 (outsS 3 zs).length c2, .int .i64 0], .slice a len cap] w (MadeEnd B w 3 zs) := by
  have u1 := hA
  have u2 := hn
  have u3 := hl
  obtain ⟨l1, e1⟩ : ∃ l, (insS 3 zs).length = l := ⟨_, rfl⟩
  obtain ⟨l2, e2⟩ : ∃ l, (outsS 3 zs).length = l := ⟨_, rfl⟩
  rw [e1, e2]
  have E1 := hidden6 e1
  have E2 := hidden6 e2
  have H1 := hidden6 h1
  have H2 := hidden6 h2
  have OK := hidden6 ok
  have IR := hidden6 inr
  clear u1 u2 u3 hA hn hl e1 e2 h1 h2 ok inr
  go_enter Try.func14, Try.ntmps14
  go_wp2
  go_ret
  have b1 := (Below.refl w.heap.size w).alloc (Nat.le_refl _) (.cells #[.slice a1 l1 c1, .slice a2 l2 c2, .int .i64 0] 53)
  obtain ⟨F, hF, hFB⟩ := kin_made (T := 3) (zs := zs) (a3 := none) (a4 := none) (c3 := 0) (c4 := 0) (cs := #[.slice a1 l1 c1, .slice a2 l2 c2, .int .i64 0]) (by rw [E1.out, E2.out]; rfl) (H1.out.later b1) (H2.out.later b1) (fun e => by omega) (fun e => by omega) (fun e => by omega) (by simp; omega) (by decide) OK.out IR.out
  simp only [World.size_alloc] at hF
  exact ⟨_, F, rfl, hF, hFB, by omega, b1.alloc (by simp) _⟩
set_option maxRecDepth 100000 in
set_option maxHeartbeats 2000000 in
theorem made_4 (B : Nat) (w : World) (a1 a2 : Option Addr) (c1 c2 : Nat) (zs : List Int) (a : Option Addr) (len cap : Nat) (h1 : CapR B w a1 c1 (insS 4 zs)) (h2 : CapR B w a2 c2 (outsS 4 zs)) (hB : B ≤ w.heap.size) (ok : okS 4 zs = true) (inr : InR zs) (hl : zs.length = len) (hA : At w a zs) (hn : a = none → len = 0 ∧ cap = 0) :
    Calls Try.prog 14 #[.int .u8 4, .agg #[.slice a1 (insS 4 zs).length c1, .slice a2 (outsS 4 zs).length c2, .int .i64 0], .slice a len cap] w (MadeEnd B w 4 zs) := by
  have u1 := hA
  have u2 := hn
  have u3 := hl
  obtain ⟨l1, e1⟩ : ∃ l, (insS 4 zs).length = l := ⟨_, rfl⟩
  obtain ⟨l2, e2⟩ : ∃ l, (outsS 4 zs).length = l := ⟨_, rfl⟩
  rw [e1, e2]
  have E1 := hidden6 e1
  have E2 := hidden6 e2
  have H1 := hidden6 h1
  have H2 := hidden6 h2
  have OK := hidden6 ok
  have IR := hidden6 inr
  clear u1 u2 u3 hA hn hl e1 e2 h1 h2 ok inr
  go_enter Try.func14, Try.ntmps14
  go_wp2
  go_ret
  have b1 := (Below.refl w.heap.size w).alloc (Nat.le_refl _) (.cells #[.slice a1 l1 c1, .slice a2 l2 c2, .int .i64 0] 53)
  obtain ⟨F, hF, hFB⟩ := kin_made (T := 4) (zs := zs) (a3 := none) (a4 := none) (c3 := 0) (c4 := 0) (cs := #[.slice a1 l1 c1, .slice a2 l2 c2, .int .i64 0]) (by rw [E1.out, E2.out]; rfl) (H1.out.later b1) (H2.out.later b1) (fun e => by omega) (fun e => by omega) (fun e => by omega) (by simp; omega) (by decide) OK.out IR.out
  simp only [World.size_alloc] at hF
  exact ⟨_, F, rfl, hF, hFB, by omega, b1.alloc (by simp) _⟩
set_option maxRecDepth 100000 in
set_option maxHeartbeats 2000000 in
theorem made_5 (B : Nat) (w : World) (a1 a2 : Option Addr) (c1 c2 : Nat) (zs : List Int) (a : Option Addr) (len cap : Nat) (h1 : CapR B w a1 c1 (insS 5 zs)) (h2 : CapR B w a2 c2 (outsS 5 zs)) (hB : B ≤ w.heap.size) (ok : okS 5 zs = true) (inr : InR zs) (hl : zs.length = len) (hA : At w a zs) (hn : a = none → len = 0 ∧ cap = 0) :
    Calls Try.prog 14 #[.int .u8 5, .agg #[.slice a1 (insS 5 zs).length c1, .slice a2 (outsS 5 zs).length c2, .int .i64 0], .slice a len cap] w (MadeEnd B w 5 zs) := by
  have u1 := hA
  have u2 := hn
  have u3 := hl
  obtain ⟨l1, e1⟩ : ∃ l, (insS 5 zs).length = l := ⟨_, rfl⟩
  obtain ⟨l2, e2⟩ : ∃ l, (outsS 5 zs).length = l := ⟨_, rfl⟩
  rw [e1, e2]
  have E1 := hidden6 e1
  have E2 := hidden6 e2
  have H1 := hidden6 h1
  have H2 := hidden6 h2
  have OK := hidden6 ok
  have IR := hidden6 inr
  clear u1 u2 u3 hA hn hl e1 e2 h1 h2 ok inr
  go_enter Try.func14, Try.ntmps14
  go_wp2
  go_ret
  have b1 := (Below.refl w.heap.size w).alloc (Nat.le_refl _) (.cells #[.slice a1 l1 c1, .slice a2 l2 c2, .int .i64 0] 53)
  obtain ⟨F, hF, hFB⟩ := kin_made (T := 5) (zs := zs) (a3 := none) (a4 := none) (c3 := 0) (c4 := 0) (cs := #[.slice a1 l1 c1, .slice a2 l2 c2, .int .i64 0]) (by rw [E1.out, E2.out]; rfl) (H1.out.later b1) (H2.out.later b1) (fun e => by omega) (fun e => by omega) (fun e => by omega) (by simp; omega) (by decide) OK.out IR.out
  simp only [World.size_alloc] at hF
  exact ⟨_, F, rfl, hF, hFB, by omega, b1.alloc (by simp) _⟩
set_option maxRecDepth 100000 in
set_option maxHeartbeats 2000000 in
theorem made_6 (B : Nat) (w : World) (a1 a2 : Option Addr) (c1 c2 : Nat) (zs : List Int) (a : Option Addr) (len cap : Nat) (h1 : CapR B w a1 c1 (insS 6 zs)) (h2 : CapR B w a2 c2 (outsS 6 zs)) (hB : B ≤ w.heap.size) (ok : okS 6 zs = true) (inr : InR zs) (hl : zs.length = len) (hA : At w a zs) (hn : a = none → len = 0 ∧ cap = 0) :
    Calls Try.prog 14 #[.int .u8 6, .agg #[.slice a1 (insS 6 zs).length c1, .slice a2 (outsS 6 zs).length c2, .int .i64 0], .slice a len cap] w (MadeEnd B w 6 zs) := by
  have u1 := hA
  have u2 := hn
  have u3 := hl
  obtain ⟨l1, e1⟩ : ∃ l, (insS 6 zs).length = l := ⟨_, rfl⟩
  obtain ⟨l2, e2⟩ : ∃ l, (outsS 6 zs).length = l := ⟨_, rfl⟩
  rw [e1, e2]
  have E1 := hidden6 e1
  have E2 := hidden6 e2
  have H1 := hidden6 h1
  have H2 := hidden6 h2
  have OK := hidden6 ok
  have IR := hidden6 inr
  clear u1 u2 u3 hA hn hl e1 e2 h1 h2 ok inr
  go_enter Try.func14, Try.ntmps14
  go_wp2
  go_ret
  have b1 := (Below.refl w.heap.size w).alloc (Nat.le_refl _) (.cells #[.slice a1 l1 c1, .slice a2 l2 c2, .int .i64 0] 53)
  obtain ⟨F, hF, hFB⟩ := kin_made (T := 6) (zs := zs) (a3 := none) (a4 := none) (c3 := 0) (c4 := 0) (cs := #[.slice a1 l1 c1, .slice a2 l2 c2, .int .i64 0]) (by rw [E1.out, E2.out]; rfl) (H1.out.later b1) (H2.out.later b1) (fun e => by omega) (fun e => by omega) (fun e => by omega) (by simp; omega) (by decide) OK.out IR.out
  simp only [World.size_alloc] at hF
  exact ⟨_, F, rfl, hF, hFB, by omega, b1.alloc (by simp) _⟩
set_option maxRecDepth 100000 in
set_option maxHeartbeats 2000000 in
theorem made_7 (B : Nat) (w : World) (a1 a2 : Option Addr) (c1 c2 : Nat) (zs : List Int) (a : Option Addr) (len cap : Nat) (h1 : CapR B w a1 c1 (insS 7 zs)) (h2 : CapR B w a2 c2 (outsS 7 zs)) (hB : B ≤ w.heap.size) (ok : okS 7 zs = true) (inr : InR zs) (hl : zs.length = len) (hA : At w a zs) (hn : a = none → len = 0 ∧ cap = 0) :
    Calls Try.prog 14 #[.int .u8 7, .agg #[.slice a1 (insS 7 zs).length c1, .slice a2 (outsS 7 zs).length c2, .int .i64 0], .slice a len cap] w (MadeEnd B w 7 zs) := by
  have u1 := hA
  have u2 := hn
  have u3 := hl
  obtain ⟨l1, e1⟩ : ∃ l, (insS 7 zs).length = l := ⟨_, rfl⟩
  obtain ⟨l2, e2⟩ : ∃ l, (outsS 7 zs).length = l := ⟨_, rfl⟩
  rw [e1, e2]
  have E1 := hidden6 e1
  have E2 := hidden6 e2
  have H1 := hidden6 h1
  have H2 := hidden6 h2
  have OK := hidden6 ok
  have IR := hidden6 inr
  clear u1 u2 u3 hA hn hl e1 e2 h1 h2 ok inr
  go_enter Try.func14, Try.ntmps14
  go_wp2
  go_ret
  have b1 := (Below.refl w.heap.size w).alloc (Nat.le_refl _) (.cells #[.slice a1 l1 c1, .slice a2 l2 c2, .int .i64 0] 53)
  obtain ⟨F, hF, hFB⟩ := kin_made (T := 7) (zs := zs) (a3 := none) (a4 := none) (c3 := 0) (c4 := 0) (cs := #[.slice a1 l1 c1, .slice a2 l2 c2, .int .i64 0]) (by rw [E1.out, E2.out]; rfl) (H1.out.later b1) (H2.out.later b1) (fun e => by omega) (fun e => by omega) (fun e => by omega) (by simp; omega) (by decide) OK.out IR.out
  simp only [World.size_alloc] at hF
  exact ⟨_, F, rfl, hF, hFB, by omega, b1.alloc (by simp) _⟩
set_option maxRecDepth 100000 in
set_option maxHeartbeats 2000000 in
theorem made_8 (B : Nat) (w : World) (a1 a2 : Option Addr) (c1 c2 : Nat) (zs : List Int) (a : Option Addr) (len cap : Nat) (h1 : CapR B w a1 c1 (insS 8 zs)) (h2 : CapR B w a2 c2 (outsS 8 zs)) (hB : B ≤ w.heap.size) (ok : okS 8 zs = true) (inr : InR zs) (hl : zs.length = len) (hA : At w a zs) (hn : a = none → len = 0 ∧ cap = 0) :
    Calls Try.prog 14 #[.int .u8 8, .agg #[.slice a1 (insS 8 zs).length c1, .slice a2 (outsS 8 zs).length c2, .int .i64 0], .slice a len cap] w (MadeEnd B w 8 zs) := by
  have u1 := hA
  have u2 := hn
  have u3 := hl
  obtain ⟨l1, e1⟩ : ∃ l, (insS 8 zs).length = l := ⟨_, rfl⟩
  obtain ⟨l2, e2⟩ : ∃ l, (outsS 8 zs).length = l := ⟨_, rfl⟩
  rw [e1, e2]
  have E1 := hidden6 e1
  have E2 := hidden6 e2
  have H1 := hidden6 h1
  have H2 := hidden6 h2
  have OK := hidden6 ok
  have IR := hidden6 inr
  clear u1 u2 u3 hA hn hl e1 e2 h1 h2 ok inr
  go_enter Try.func14, Try.ntmps14
  go_wp2
  go_ret
  have b1 := (Below.refl w.heap.size w).alloc (Nat.le_refl _) (.cells #[.slice a1 l1 c1, .slice a2 l2 c2, .int .i64 0] 53)
  obtain ⟨F, hF, hFB⟩ := kin_made (T := 8) (zs := zs) (a3 := none) (a4 := none) (c3 := 0) (c4 := 0) (cs := #[.slice a1 l1 c1, .slice a2 l2 c2, .int .i64 0, .int .i64 0]) (by rw [E1.out, E2.out]; rfl) (H1.out.later b1) (H2.out.later b1) (fun e => by omega) (fun e => by omega) (fun e => by omega) (by simp; omega) (by decide) OK.out IR.out
  simp only [World.size_alloc] at hF
  exact ⟨_, F, rfl, hF, hFB, by omega, b1.alloc (by simp) _⟩
set_option maxRecDepth 100000 in
set_option maxHeartbeats 2000000 in
theorem made_9 (B : Nat) (w : World) (a1 a2 : Option Addr) (c1 c2 : Nat) (zs : List Int) (a : Option Addr) (len cap : Nat) (h1 : CapR B w a1 c1 (insS 9 zs)) (h2 : CapR B w a2 c2 (outsS 9 zs)) (hB : B ≤ w.heap.size) (ok : okS 9 zs = true) (inr : InR zs) (hl : zs.length = len) (hA : At w a zs) (hn : a = none → len = 0 ∧ cap = 0) :
    Calls Try.prog 14 #[.int .u8 9, .agg #[.slice a1 (insS 9 zs).length c1, .slice a2 (outsS 9 zs).length c2, .int .i64 0], .slice a len cap] w (MadeEnd B w 9 zs) := by
  have u1 := hA
  have u2 := hn
  have u3 := hl
  obtain ⟨l1, e1⟩ : ∃ l, (insS 9 zs).length = l := ⟨_, rfl⟩
  obtain ⟨l2, e2⟩ : ∃ l, (outsS 9 zs).length = l := ⟨_, rfl⟩
  rw [e1, e2]
  have E1 := hidden6 e1
  have E2 := hidden6 e2
  have H1 := hidden6 h1
  have H2 := hidden6 h2
  have OK := hidden6 ok
  have IR := hidden6 inr
  clear u1 u2 u3 hA hn hl e1 e2 h1 h2 ok inr
  go_enter Try.func14, Try.ntmps14
  go_wp2
  go_ret
  have b1 := (Below.refl w.heap.size w).alloc (Nat.le_refl _) (.cells #[.slice a1 l1 c1, .slice a2 l2 c2, .int .i64 0] 53)
  obtain ⟨F, hF, hFB⟩ := kin_made (T := 9) (zs := zs) (a3 := none) (a4 := none) (c3 := 0) (c4 := 0) (cs := #[.slice a1 l1 c1, .slice a2 l2 c2, .int .i64 0]) (by rw [E1.out, E2.out]; rfl) (H1.out.later b1) (H2.out.later b1) (fun e => by omega) (fun e => by omega) (fun e => by omega) (by simp; omega) (by decide) OK.out IR.out
  simp only [World.size_alloc] at hF
  exact ⟨_, F, rfl, hF, hFB, by omega, b1.alloc (by simp) _⟩
set_option maxRecDepth 100000 in
set_option maxHeartbeats 2000000 in
theorem made_11 (B : Nat) (w : World) (a1 a2 : Option Addr) (c1 c2 : Nat) (zs : List Int) (a : Option Addr) (len cap : Nat) (h1 : CapR B w a1 c1 (insS 11 zs)) (h2 : CapR B w a2 c2 (outsS 11 zs)) (hB : B ≤ w.heap.size) (ok : okS 11 zs = true) (inr : InR zs) (hl : zs.length = len) (hA : At w a zs) (hn : a = none → len = 0 ∧ cap = 0) :
    Calls Try.prog 14 #[.int .u8 11, .agg #[.slice a1 (insS 11 zs).length c1, .slice a2 (outsS 11 zs).length c2, .int .i64 0], .slice a len cap] w (MadeEnd B w 11 zs) := by
  have u1 := hA
  have u2 := hn
  have u3 := hl
  obtain ⟨l1, e1⟩ : ∃ l, (insS 11 zs).length = l := ⟨_, rfl⟩
  obtain ⟨l2, e2⟩ : ∃ l, (outsS 11 zs).length = l := ⟨_, rfl⟩
  rw [e1, e2]
  have E1 := hidden6 e1
  have E2 := hidden6 e2
  have H1 := hidden6 h1
  have H2 := hidden6 h2
  have OK := hidden6 ok
  have IR := hidden6 inr
  clear u1 u2 u3 hA hn hl e1 e2 h1 h2 ok inr
  go_enter Try.func14, Try.ntmps14
  go_wp2
  go_ret
  have b1 := (Below.refl w.heap.size w).alloc (Nat.le_refl _) (.cells #[.slice a1 l1 c1, .slice a2 l2 c2, .int .i64 0] 53)
  obtain ⟨F, hF, hFB⟩ := kin_made (T := 11) (zs := zs) (a3 := none) (a4 := none) (c3 := 0) (c4 := 0) (cs := #[.slice a1 l1 c1, .slice a2 l2 c2, .int .i64 0]) (by rw [E1.out, E2.out]; rfl) (H1.out.later b1) (H2.out.later b1) (fun e => by omega) (fun e => by omega) (fun e => by omega) (by simp; omega) (by decide) OK.out IR.out
  simp only [World.size_alloc] at hF
  exact ⟨_, F, rfl, hF, hFB, by omega, b1.alloc (by simp) _⟩
set_option maxRecDepth 100000 in
set_option maxHeartbeats 2000000 in
theorem made_1 (B : Nat) (w : World) (a1 a2 : Option Addr) (c1 c2 : Nat) (zs : List Int) (a : Option Addr) (len cap : Nat) (h1 : CapR B w a1 c1 (insS 1 zs)) (h2 : CapR B w a2 c2 (outsS 1 zs)) (hB : B ≤ w.heap.size) (ok : okS 1 zs = true) (inr : InR zs) (hl : zs.length = len) (hA : At w a zs) (hn : a = none → len = 0 ∧ cap = 0) :
    Calls Try.prog 14 #[.int .u8 1, .agg #[.slice a1 (insS 1 zs).length c1, .slice a2 (outsS 1 zs).length c2, .int .i64 0], .slice a len cap] w (MadeEnd B w 1 zs) := by
  obtain ⟨l1, e1⟩ : ∃ l, (insS 1 zs).length = l := ⟨_, rfl⟩
  obtain ⟨l2, e2⟩ : ∃ l, (outsS 1 zs).length = l := ⟨_, rfl⟩
  rw [e1, e2]
  have E1 := hidden6 e1
  have E2 := hidden6 e2
  have H1 := hidden6 h1
  have H2 := hidden6 h2
  have OK := hidden6 ok
  have IR := hidden6 inr
  have hzl := wB_bound (show wB (zs.length : Int) 16 = true from ok)
  obtain ⟨N, rfl⟩ : ∃ N, len = N + 1 := ⟨len - 1, by omega⟩
  have hmk := run_make_row' (P := Try.prog) 22 3 (.int .i64 0) 8 Try.underlying22 Try.info3 rfl .i64 .i64 N (by omega) (by omega)
  have hN16 : N ≤ 16 := by omega
  have HW : IntKind.i64.wrap (N : Int) = (N : Int) := by rw [IntKind.wrap_i64]; omega
  obtain ⟨O, hO⟩ : ∃ O, Obj.cells #[.slice a1 l1 c1, .slice a2 l2 c2, .int .i64 0] 53 = O := ⟨_, rfl⟩
  have bO := hidden6 ((Below.refl w.heap.size w).alloc (Nat.le_refl _) O)
  have CL : Hid (∀ V, At V a zs → Calls Try.prog 26 #[.slice a (N + 1) cap] V (RowEnd V zs)) := fun V h => clone_any a zs (N + 1) cap V hl (by omega) (fun e => hn e) h
  have HA := hidden6 (hA.below bO.out)
  have BN := hidden6 (blkA_new 53 w #[.slice a1 l1 c1, .slice a2 l2 c2, .int .i64 0])
  rw [hO] at BN
  have q0 := BN.out.cell (k := 0) rfl
  have q1 := BN.out.cell (k := 1) rfl
  have q2 := BN.out.cell (k := 2) rfl
  have HL := hidden6 hl
  clear hA hn hl e1 e2 h1 h2 ok inr BN
  go_enter Try.func14, Try.ntmps14
  go_wp2
  try rw [hO]
  refine wp_region_said 7 (fun i u v => match i with
      | 0 => v = .agg #[.slice a1 l1 c1, .slice a2 l2 c2, .int .i64 0]
      | 1 => v = .slice a (N + 1) cap
      | 2 => Mk w.heap.size u zs v
      | 3 => v = .slice a (N + 1) cap
      | 4 => v = .int .i64 ((N : Int) + 1)
      | 5 => v = .int .i64 (N : Int)
      | 6 => MkS w.heap.size u (List.replicate N 0) v
      | _ => True) (by kernel_rfl) (by kernel_rfl) (by kernel_rfl) (by kernel_rfl) ?_ ?_ ?_
  · intro i w v w' h hb
    match i, h with
    | 0, h => exact h
    | 1, h => exact h
    | 2, h => exact Mk.later h hb
    | 3, h => exact h
    | 4, h => exact h
    | 5, h => exact h
    | 6, h => exact MkS.later h hb
    | _ + 7, _ => trivial
  · intro i o ρ w' hi ho hb hc hf hfr hdep
    have k0 := cell_keep6 hb q0
    have k1 := cell_keep6 hb q1
    have k2 := cell_keep6 hb q2
    match i, hi with
    | 0, _ =>
      simp only [gTA, gCZ, gSI] at ho
      subst ho
      have ts : ρ (.tmp 4) = .pointer (some ⟨w.heap.size, 0, none⟩) := hfr 4 (by kernel_rfl)
      simp [go_sem, ts, k0, k1, k2]
      exact ⟨Below.refl _ _, rfl⟩
    | 1, _ =>
      simp only [gTA, gCZ, gCS, gSI] at ho
      subst ho
      have ts : ρ (.tmp 2) = .slice a (N + 1) cap := hfr 2 (by kernel_rfl)
      simp [go_sem, ts]
      exact ⟨Below.refl _ _, rfl⟩
    | 2, _ =>
      simp only [gTA, gCZ, gCS, gSI] at ho
      subst ho
      have ts : ρ (.tmp 11) = .slice a (N + 1) cap := hdep 1 11 (by kernel_rfl) (by kernel_rfl)
      simp [go_sem, ts, hf]
      exact ⟨rfl, said_of (CL.out w' (HA.out.below hb)) (by have := hb.size; simp at this; omega)⟩
    | 3, _ =>
      simp only [gTA, gCZ, gCS, gSI] at ho
      subst ho
      have ts : ρ (.tmp 2) = .slice a (N + 1) cap := hfr 2 (by kernel_rfl)
      simp [go_sem, ts]
      exact ⟨Below.refl _ _, rfl⟩
    | 4, _ =>
      simp only [gTA, gCZ, gCS, gSI] at ho
      subst ho
      have ts : ρ (.tmp 13) = .slice a (N + 1) cap := hdep 3 13 (by kernel_rfl) (by kernel_rfl)
      simp [go_sem, ts]
      exact ⟨Below.refl _ _, rfl⟩
    | 5, _ =>
      simp only [gTA, gCZ, gCS, gSI] at ho
      subst ho
      have ts : ρ (.tmp 14) = .int .i64 ((N : Int) + 1) := hdep 4 14 (by kernel_rfl) (by kernel_rfl)
      simp [go_sem, ts, hc, HW]
      exact ⟨Below.refl _ _, rfl⟩
    | 6, _ =>
      simp only [gTA, gCZ, gCS, gSI] at ho
      subst ho
      have ts : ρ (.tmp 15) = .int .i64 (N : Int) := hdep 5 15 (by kernel_rfl) (by kernel_rfl)
      simp [go_sem, ts, hmk]
      exact ⟨(Below.refl _ _).alloc (Nat.le_refl _) _, _, _, (by simp), (made_alloc w' N (by omega)).mono (by have := hb.size; simp at this; omega)⟩
  · intro V w9 q9 hS
    have e0 : V 0 = .agg #[.slice a1 l1 c1, .slice a2 l2 c2, .int .i64 0] := hS 0 (by decide)
    have e1 : V 1 = .slice a (N + 1) cap := hS 1 (by decide)
    obtain ⟨a12, n12, e2, M2⟩ : Mk w.heap.size w9 zs (V 2) := hS 2 (by decide)
    have e3 : V 3 = .slice a (N + 1) cap := hS 3 (by decide)
    have e4 : V 4 = .int .i64 ((N : Int) + 1) := hS 4 (by decide)
    have e5 : V 5 = .int .i64 (N : Int) := hS 5 (by decide)
    obtain ⟨a16, n16, e6, M6⟩ : MkS w.heap.size w9 (List.replicate N 0) (V 6) := hS 6 (by decide)
    simp only [List.drop_succ_cons, List.drop_zero, List.take_succ_cons, List.take_zero, puts, e0, e1, e2, e3, e4, e5, e6]
    clear hS e0 e1 e2 e3 e4 e5 e6 V
    go_wp2
    go_ret
    have b9 := bO.out.trans (q9.mono bO.out.size)
    have hk : keepS 1 zs = List.replicate N 0 := by show List.replicate (zs.length - 1) 0 = _; rw [HL.out]; rfl
    have hB2 : B ≤ w.heap.size := hB
    obtain ⟨F, hF, hFB⟩ := kin_made (B := B) (T := 1) (zs := zs) (a3 := a12) (a4 := some ⟨a16, 0, none⟩) (c3 := n12) (c4 := n16) (cs := #[.slice a1 l1 c1, .slice a2 l2 c2, .int .i64 0, .slice a12 zs.length n12, .slice (some ⟨a16, 0, none⟩) N n16]) (by rw [E1.out, E2.out, hk, List.length_replicate]; rfl) (H1.out.later b9) (H2.out.later b9) (fun _ => M2.mono hB2) (fun _ => by rw [hk]; exact M6.mono hB2) (fun _ => ⟨a16, rfl⟩) (by have := b9.size; omega) (by decide) OK.out IR.out
    exact ⟨_, F, rfl, hF, hFB, by have := b9.size; omega, b9.alloc b9.size _⟩
set_option maxRecDepth 100000 in
set_option maxHeartbeats 2000000 in
theorem made_10 (B : Nat) (w : World) (a1 a2 : Option Addr) (c1 c2 : Nat) (zs : List Int) (a : Option Addr) (len cap : Nat) (h1 : CapR B w a1 c1 (insS 10 zs)) (h2 : CapR B w a2 c2 (outsS 10 zs)) (hB : B ≤ w.heap.size) (ok : okS 10 zs = true) (inr : InR zs) (hl : zs.length = len) (hA : At w a zs) (hn : a = none → len = 0 ∧ cap = 0) :
    Calls Try.prog 14 #[.int .u8 10, .agg #[.slice a1 (insS 10 zs).length c1, .slice a2 (outsS 10 zs).length c2, .int .i64 0], .slice a len cap] w (MadeEnd B w 10 zs) := by
  obtain ⟨l1, e1⟩ : ∃ l, (insS 10 zs).length = l := ⟨_, rfl⟩
  obtain ⟨l2, e2⟩ : ∃ l, (outsS 10 zs).length = l := ⟨_, rfl⟩
  rw [e1, e2]
  have E1 := hidden6 e1
  have E2 := hidden6 e2
  have H1 := hidden6 h1
  have H2 := hidden6 h2
  have OK := hidden6 ok
  have IR := hidden6 inr
  have u2 := hn
  have hl2 : zs.length = 2 := of_decide_eq_true (show decide (zs.length = 2) = true from ok)
  have m0 : 0 < len := by omega
  have m1 : (1 : Int) < (len : Int) := by omega
  obtain ⟨O, hO⟩ : ∃ O, Obj.cells #[.slice a1 l1 c1, .slice a2 l2 c2, .int .i64 0] 53 = O := ⟨_, rfl⟩
  have bO := hidden6 ((Below.refl w.heap.size w).alloc (Nat.le_refl _) O)
  have BN := hidden6 (blkA_new 53 w #[.slice a1 l1 c1, .slice a2 l2 c2, .int .i64 0])
  rw [hO] at BN
  have q0 := BN.out.cell (k := 0) rfl
  have q1 := BN.out.cell (k := 1) rfl
  have q2 := BN.out.cell (k := 2) rfl
  rcases hA.below bO.out with h0 | ⟨b, off, rfl, hcc⟩
  · rw [h0] at hl2; simp at hl2
  have q3 := hcc 0 (by omega)
  have q4 := hcc 1 (by omega)
  rw [Nat.add_zero] at q3
  have P0 : Hid (nth zs 0 = nth (keepS 10 zs) 0) := hidden6 rfl
  obtain ⟨p0, hp0⟩ : ∃ p, nth zs 0 = p := ⟨_, rfl⟩
  obtain ⟨p1, hp1⟩ : ∃ p, nth zs 1 = p := ⟨_, rfl⟩
  rw [hp0] at q3
  rw [hp1] at q4
  have HP0 := hidden6 hp0
  have HP1 := hidden6 hp1
  clear hA hn u2 e1 e2 h1 h2 ok inr BN hcc hp0 hp1
  go_enter Try.func14, Try.ntmps14
  go_wp2
  try rw [hO]
  refine wp_region_said 7 (fun i u v => match i with
      | 0 => v = .agg #[.slice a1 l1 c1, .slice a2 l2 c2, .int .i64 0]
      | 1 => v = .slice (some ⟨b, off, none⟩) len cap
      | 2 => v = .pointer (some ⟨b, off, none⟩)
      | 3 => v = .int .i64 p0
      | 4 => v = .slice (some ⟨b, off, none⟩) len cap
      | 5 => v = .pointer (some ⟨b, off + 1, none⟩)
      | 6 => v = .int .i64 p1
      | _ => True) (by kernel_rfl) (by kernel_rfl) (by kernel_rfl) (by kernel_rfl) ?_ ?_ ?_
  · intro i w v w' h hb
    match i, h with
    | 0, h => exact h
    | 1, h => exact h
    | 2, h => exact h
    | 3, h => exact h
    | 4, h => exact h
    | 5, h => exact h
    | 6, h => exact h
    | _ + 7, _ => trivial
  · intro i o ρ w' hi ho hb hc hf hfr hdep
    have k0 := cell_keep6 hb q0
    have k1 := cell_keep6 hb q1
    have k2 := cell_keep6 hb q2
    have k3 := cell_keep6 hb q3
    have k4 := cell_keep6 hb q4
    match i, hi with
    | 0, _ =>
      simp only [gTA, gCZ, gSI] at ho
      subst ho
      have ts : ρ (.tmp 4) = .pointer (some ⟨w.heap.size, 0, none⟩) := hfr 4 (by kernel_rfl)
      simp [go_sem, ts, k0, k1, k2]
      exact ⟨Below.refl _ _, rfl⟩
    | 1, _ =>
      simp only [gTA, gCZ, gCS, gSI] at ho
      subst ho
      have ts : ρ (.tmp 2) = .slice (some ⟨b, off, none⟩) len cap := hfr 2 (by kernel_rfl)
      simp [go_sem, ts]
      exact ⟨Below.refl _ _, rfl⟩
    | 2, _ =>
      simp only [gTA, gCZ, gCS, gSI] at ho
      subst ho
      have ts : ρ (.tmp 71) = .slice (some ⟨b, off, none⟩) len cap := hdep 1 71 (by kernel_rfl) (by kernel_rfl)
      simp [go_sem, ts, hc, m0]
      exact ⟨Below.refl _ _, rfl⟩
    | 3, _ =>
      simp only [gTA, gCZ, gCS, gSI] at ho
      subst ho
      have ts : ρ (.tmp 72) = .pointer (some ⟨b, off, none⟩) := hdep 2 72 (by kernel_rfl) (by kernel_rfl)
      simp [go_sem, ts, k3]
      exact ⟨Below.refl _ _, rfl⟩
    | 4, _ =>
      simp only [gTA, gCZ, gCS, gSI] at ho
      subst ho
      have ts : ρ (.tmp 2) = .slice (some ⟨b, off, none⟩) len cap := hfr 2 (by kernel_rfl)
      simp [go_sem, ts]
      exact ⟨Below.refl _ _, rfl⟩
    | 5, _ =>
      simp only [gTA, gCZ, gCS, gSI] at ho
      subst ho
      have ts : ρ (.tmp 74) = .slice (some ⟨b, off, none⟩) len cap := hdep 4 74 (by kernel_rfl) (by kernel_rfl)
      simp [go_sem, ts, hc, m1]
      exact ⟨Below.refl _ _, rfl⟩
    | 6, _ =>
      simp only [gTA, gCZ, gCS, gSI] at ho
      subst ho
      have ts : ρ (.tmp 75) = .pointer (some ⟨b, off + 1, none⟩) := hdep 5 75 (by kernel_rfl) (by kernel_rfl)
      simp [go_sem, ts, k4]
      exact ⟨Below.refl _ _, rfl⟩
  · intro V w9 q9 hS
    have e0 : V 0 = .agg #[.slice a1 l1 c1, .slice a2 l2 c2, .int .i64 0] := hS 0 (by decide)
    have e1 : V 1 = .slice (some ⟨b, off, none⟩) len cap := hS 1 (by decide)
    have e2 : V 2 = .pointer (some ⟨b, off, none⟩) := hS 2 (by decide)
    have e3 : V 3 = .int .i64 p0 := hS 3 (by decide)
    have e4 : V 4 = .slice (some ⟨b, off, none⟩) len cap := hS 4 (by decide)
    have e5 : V 5 = .pointer (some ⟨b, off + 1, none⟩) := hS 5 (by decide)
    have e6 : V 6 = .int .i64 p1 := hS 6 (by decide)
    simp only [List.drop_succ_cons, List.drop_zero, List.take_succ_cons, List.take_zero, puts, e0, e1, e2, e3, e4, e5, e6]
    clear hS e0 e1 e2 e3 e4 e5 e6 V
    go_wp2
    go_ret
    have b9 := bO.out.trans (q9.mono bO.out.size)
    obtain ⟨F, hF, hFB⟩ := kin_made (T := 10) (zs := zs) (a3 := none) (a4 := none) (c3 := 0) (c4 := 0) (cs := #[.slice a1 l1 c1, .slice a2 l2 c2, .int .i64 0, .int .i64 p0, .int .i64 p1]) (by rw [E1.out, E2.out, ← HP0.out, ← HP1.out]; rfl) (H1.out.later b9) (H2.out.later b9) (fun e => by omega) (fun e => by omega) (fun e => by omega) (by have := b9.size; omega) (by decide) OK.out IR.out
    exact ⟨_, F, rfl, hF, hFB, by have := b9.size; omega, b9.alloc b9.size _⟩
theorem made_any (t : Nat) (ht : 1 ≤ t ∧ t ≤ 11) (B : Nat) (w : World) (a1 a2 : Option Addr) (c1 c2 : Nat) (zs : List Int) (a : Option Addr) (len cap : Nat) (h1 : CapR B w a1 c1 (insS t zs)) (h2 : CapR B w a2 c2 (outsS t zs)) (hB : B ≤ w.heap.size) (ok : okS t zs = true) (inr : InR zs) (hl : zs.length = len) (hA : At w a zs) (hn : a = none → len = 0 ∧ cap = 0) :
    Calls Try.prog 14 #[.int .u8 (t : Int), .agg #[.slice a1 (insS t zs).length c1, .slice a2 (outsS t zs).length c2, .int .i64 0], .slice a len cap] w (MadeEnd B w t zs) := by
  revert h1 h2 ok
  revert t
  exact eleven (fun h1 h2 ok => made_1 B w a1 a2 c1 c2 zs a len cap h1 h2 hB ok inr hl hA hn) (fun h1 h2 ok => made_2 B w a1 a2 c1 c2 zs a len cap h1 h2 hB ok inr hl hA hn) (fun h1 h2 ok => made_3 B w a1 a2 c1 c2 zs a len cap h1 h2 hB ok inr hl hA hn) (fun h1 h2 ok => made_4 B w a1 a2 c1 c2 zs a len cap h1 h2 hB ok inr hl hA hn) (fun h1 h2 ok => made_5 B w a1 a2 c1 c2 zs a len cap h1 h2 hB ok inr hl hA hn) (fun h1 h2 ok => made_6 B w a1 a2 c1 c2 zs a len cap h1 h2 hB ok inr hl hA hn) (fun h1 h2 ok => made_7 B w a1 a2 c1 c2 zs a len cap h1 h2 hB ok inr hl hA hn) (fun h1 h2 ok => made_8 B w a1 a2 c1 c2 zs a len cap h1 h2 hB ok inr hl hA hn) (fun h1 h2 ok => made_9 B w a1 a2 c1 c2 zs a len cap h1 h2 hB ok inr hl hA hn) (fun h1 h2 ok => made_10 B w a1 a2 c1 c2 zs a len cap h1 h2 hB ok inr hl hA hn) (fun h1 h2 ok => made_11 B w a1 a2 c1 c2 zs a len cap h1 h2 hB ok inr hl hA hn)
/-- An actor at work, as it lies. -/
structure Bod (F : Nat → Prop) (w : World) (B K t : Nat) (zs ks : List Int) (n : Nat) : Prop where
  blk : BlkA 55 B w #[.iface (kP t) (.pointer (some ⟨K, 0, none⟩))]
  own : F B
  ne : B ≠ K
  kin : KinE F w K t zs ks n
theorem KinE.mem {F : Nat → Prop} {w : World} {K t : Nat} {zs ks : List Int} {n : Nat} (h : KinE F w K t zs ks n) : F K ∧ ∀ k, F k → k < w.heap.size := by
  obtain ⟨a1, a2, a3, a4, c1, c2, c3, c4, h⟩ := h
  exact ⟨h.own, h.low⟩
theorem Bod.keeps {F : Nat → Prop} {w w' : World} {B K t : Nat} {zs ks : List Int} {n : Nat} (h : Bod F w B K t zs ks n) (hk : ∀ k, F k → w'.heap[k]? = w.heap[k]?) : Bod F w' B K t zs ks n := ⟨h.blk.keep (hk B h.own), h.own, h.ne, h.kin.keeps hk⟩
theorem Bod.below {F : Nat → Prop} {w w' : World} {B K t : Nat} {zs ks : List Int} {n : Nat} (h : Bod F w B K t zs ks n) (hb : Below w.heap.size w w') : Bod F w' B K t zs ks n := h.keeps fun k hF => hb.block k (h.kin.mem.2 k hF)
theorem KinE.widen {F F' : Nat → Prop} {w : World} {K t : Nat} {zs ks : List Int} {n : Nat} (h : KinE F w K t zs ks n) (hF : ∀ k, F k → F' k) (hl : ∀ k, F' k → k < w.heap.size) : KinE F' w K t zs ks n := by
  obtain ⟨a1, a2, a3, a4, c1, c2, c3, c4, h⟩ := h
  exact ⟨a1, a2, a3, a4, c1, c2, c3, c4, h.blk, h.ins, h.outs, h.taps, h.kept, hF _ h.own, fun x hx => hF _ (h.f1 x hx), fun x hx => hF _ (h.f2 x hx), fun e x hx => hF _ (h.f3 e x hx), fun e x hx => hF _ (h.f4 e x hx), h.rows, h.some4, h.tag, h.ok, h.keep, h.inr, hl⟩
def NewEnd (w : World) (t : Nat) (zs : List Int) (e : Ending) (w' : World) : Prop :=
  ((ofS t zs).2.2 = 0 ∧ okS t zs = true ∧ (1 ≤ t ∧ t ≤ 11) ∧ ∃ B K F, e = .returned (.tuple #[.pointer (some ⟨B, 0, none⟩), .int .i64 0]) ∧ Bod F w' B K t zs (keepS t zs) 0 ∧ (∀ k, F k → w.heap.size ≤ k) ∧ Below w.heap.size w w') ∨
  ((ofS t zs).2.2 ≠ 0 ∧ e = .returned (.tuple #[.pointer none, .int .i64 (ofS t zs).2.2]) ∧ Below w.heap.size w w')
set_option maxRecDepth 100000 in
set_option maxHeartbeats 2000000 in
theorem new_any (t : Nat) (a : Option Addr) (zs : List Int) (len cap : Nat) (w : World) (ht : t ≤ 255) (hl : zs.length = len) (inr : InR zs) (hn : a = none → len = 0 ∧ cap = 0) (hA : At w a zs) :
    Calls Try.prog 6 #[.int .u8 (t : Int), .slice a len cap] w (NewEnd w t zs) := by
  have OF := hidden6 (shapeOf_any t a zs len cap w ht hl hA)
  unfold OfEnd at OF
  by_cases h0 : (1 ≤ t ∧ t ≤ 11) ∧ okS t zs = true
  · obtain ⟨h1, h2⟩ := h0
    have e0 : ofS t zs = (insS t zs, outsS t zs, 0) := by unfold ofS; rw [if_pos h1, if_pos h2]
    have MD : Hid (∀ (w1 : World) a1 a2 c1 c2, Below w.heap.size w w1 → CapR w.heap.size w1 a1 c1 (insS t zs) → CapR w.heap.size w1 a2 c2 (outsS t zs) → Calls Try.prog 14 #[.int .u8 (t : Int), .agg #[.slice a1 (insS t zs).length c1, .slice a2 (outsS t zs).length c2, .int .i64 0], .slice a len cap] w1 (MadeEnd w.heap.size w1 t zs)) := fun w1 a1 a2 c1 c2 hb g1 g2 => made_any t h1 w.heap.size w1 a1 a2 c1 c2 zs a len cap g1 g2 hb.size h2 inr hl (hA.below hb) hn
    rw [e0] at OF
    have E0 := hidden6 e0
    have H1 := hidden6 h1
    have H2 := hidden6 h2
    clear h1 h2 hA hn inr e0
    unfold MadeEnd at MD
    generalize (insS t zs).length = l1 at *
    generalize (outsS t zs).length = l2 at *
    go_enter Try.func6, Try.ntmps6
    go_wp2_with (first
      | (go_at_call 14; (with_reducible refine (MD.out w1 x1 x2 d1 d2 b1 m1 m2).mono ?_); rintro e w2 ⟨K, F, rfl, hK, hF, hBK, b2⟩)
      | (go_at_call 13; (with_reducible refine OF.out.mono ?_); rintro e w1 ⟨x1, d1, x2, d2, rfl, m1, m2, mx, b1⟩))
    go_ret2
    have b3 := b1.trans (b2.mono b1.size)
    have hlow := hK.mem
    have ha := (Below.refl w2.heap.size w2).alloc (Nat.le_refl _) (.cells #[.iface (kP t) (.pointer (some ⟨K, 0, none⟩))] 55)
    refine .inl ⟨by rw [E0.out], H2.out, H1.out, w2.heap.size, K, fun k => F k ∨ k = w2.heap.size, rfl, ⟨blkA_new _ _ _, .inr rfl, ?_, (hK.below ha).widen (fun k h => .inl h) fun k h => ?_⟩, fun k h => ?_, b3.alloc b3.size _⟩
    · have := hlow.2 K hlow.1; omega
    · have hs : (w2.alloc (.cells #[.iface (kP t) (.pointer (some ⟨K, 0, none⟩))] 55)).heap.size = w2.heap.size + 1 := by simp
      rcases h with h | rfl
      · have := hlow.2 k h; omega
      · omega
    · rcases h with h | rfl
      · exact hF k h
      · exact b3.size
  · have e0 : ∃ f, ofS t zs = ([], [], f) ∧ f ≠ 0 := by
      unfold ofS
      by_cases h1 : 1 ≤ t ∧ t ≤ 11
      · rw [if_pos h1, if_neg (fun h => h0 ⟨h1, h⟩)]; exact ⟨61, rfl, by decide⟩
      · rw [if_neg h1]; exact ⟨60, rfl, by decide⟩
    obtain ⟨f, e1, hf⟩ := e0
    have u1 := hn
    have u2 := inr
    rw [e1] at OF
    have E1 := hidden6 e1
    have HF := hidden6 hf
    have hff : (f != 0) = true := by simpa using hf
    clear hA e1 h0 u1 u2 hn inr hf
    go_enter Try.func6, Try.ntmps6
    go_wp2_with (go_at_call 13; (with_reducible refine OF.out.mono ?_); rintro e w1 ⟨x1, d1, x2, d2, rfl, m1, m2, mx, b1⟩)
    go_ret2
    refine .inr ⟨by rw [E1.out]; exact HF.out, by rw [E1.out]; rfl, b1⟩
theorem none_no (B : Nat) (T : TypeId) (v : Value) (w : World) (h : w.cell? ⟨B, 0, none⟩ = some (.iface T v)) : Calls Try.prog 29 #[.pointer (some ⟨B, 0, none⟩)] w fun e w' => e = .returned (.bool false) ∧ w' = w := by
  go_enter Try.func29, Try.ntmps29
  go_wp2
  go_ret
  exact ⟨rfl, rfl⟩
def FireEnd (F : Nat → Prop) (w : World) (B K t : Nat) (zs ks : List Int) (n : Nat) (I : List (List Int)) (e : Ending) (w' : World) : Prop :=
  ∃ x c A C F', e = .returned (.tuple #[.slice x (fireS t zs ks I).2.1.length c, .int .i64 (fireS t zs ks I).1]) ∧ OutT w.heap.size w' A C x (fireS t zs ks I).2.1 ∧ Bod F' w' B K t zs (fireS t zs ks I).2.2 (if (fireS t zs ks I).1 = 0 then n + 1 else n) ∧
    (∀ k, F' k → F k ∨ (w.heap.size ≤ k ∧ ∀ j y, j < (fireS t zs ks I).2.1.length → A j = some y → y.block ≠ k)) ∧ But K w w'
theorem end_fail {F : Nat → Prop} {w w1 : World} {B K t : Nat} {zs ks : List Int} {n : Nat} {I : List (List Int)} (ht : takesS t zs I = true) (hg : giveS t zs ks I = none) (hb : Bod F w1 B K t zs ks n) (b1 : But K w w1) : FireEnd F w B K t zs ks n I (.returned (.tuple #[.slice none 0 0, .int .i64 70])) w1 := by
  unfold FireEnd fireS
  rw [if_pos ht, hg]
  exact ⟨none, 0, fun _ => none, fun _ => 0, F, rfl, outT_nil _ _, hb, fun k h => .inl h, b1⟩
theorem end_arg {F : Nat → Prop} {w : World} {B K t : Nat} {zs ks : List Int} {n : Nat} {I : List (List Int)} (ht : ¬ takesS t zs I = true) (hb : Bod F w B K t zs ks n) : FireEnd F w B K t zs ks n I (.returned (.tuple #[.slice none 0 0, .int .i64 1])) w := by
  unfold FireEnd fireS
  rw [if_neg ht]
  exact ⟨none, 0, fun _ => none, fun _ => 0, F, rfl, outT_nil _ _, hb, fun k h => .inl h, But.of_below (Below.refl _ _)⟩
theorem end_ok {F F' : Nat → Prop} {w w1 : World} {B K t : Nat} {zs ks ks' : List Int} {n : Nat} {I O : List (List Int)} {x : Option Addr} {c : Nat} {A : Nat → Option Addr} {C : Nat → Nat} (ht : takesS t zs I = true) (hg : giveS t zs ks I = some (O, ks')) (hO : OutT w.heap.size w1 A C x O) (hb : Bod F' w1 B K t zs ks' (n + 1)) (hF : ∀ k, F' k → F k ∨ (w.heap.size ≤ k ∧ ∀ j y, j < O.length → A j = some y → y.block ≠ k)) (b1 : But K w w1) : FireEnd F w B K t zs ks n I (.returned (.tuple #[.slice x O.length c, .int .i64 0])) w1 := by
  unfold FireEnd fireS
  rw [if_pos ht, hg]
  exact ⟨x, c, A, C, F', rfl, hO, hb, hF, b1⟩
theorem KinE.count {F : Nat → Prop} {w : World} {K t : Nat} {zs ks : List Int} {n : Nat} (h : KinE F w K t zs ks n) (m : Nat) : KinE F (w.setCell ⟨K, 2, none⟩ (.int .i64 (m : Int))) K t zs ks m := by
  obtain ⟨a1, a2, a3, a4, c1, c2, c3, c4, h⟩ := h
  have hb := h.blk.set 2 (.int .i64 (m : Int))
  rw [kCells_count] at hb
  refine ⟨a1, a2, a3, a4, c1, c2, c3, c4, hb, h.ins.setOther (ad := ⟨K, 2, none⟩) h.rows.1 _, h.outs.setOther (ad := ⟨K, 2, none⟩) h.rows.2.1 _, (fun e => (h.taps e).setOther (ad := ⟨K, 2, none⟩) (h.rows.2.2.1 e) _), (fun e => (h.kept e).setOther (ad := ⟨K, 2, none⟩) (h.rows.2.2.2 e) _), h.own, h.f1, h.f2, h.f3, h.f4, h.rows, h.some4, h.tag, h.ok, h.keep, h.inr, fun k hF => by have := h.low k hF; simpa using this⟩
theorem KinE.cells {F : Nat → Prop} {w : World} {K t : Nat} {zs ks : List Int} {n : Nat} (h : KinE F w K t zs ks n) : (∃ a1 c1, w.cell? ⟨K, 0, none⟩ = some (.slice a1 (insS t zs).length c1) ∧ At w a1 (insS t zs)) ∧ w.cell? ⟨K, 2, none⟩ = some (.int .i64 (n : Int)) ∧ w.frozen? ⟨K, 2, none⟩ = false ∧ (insS t zs).length ≤ 1024 := by
  obtain ⟨a1, a2, a3, a4, c1, c2, c3, c4, h⟩ := h
  have hg := kCells_get t (.slice a1 (insS t zs).length c1) (.slice a2 (outsS t zs).length c2) (.slice a3 zs.length c3) (.slice a4 ks.length c4) (n : Int) zs ks
  have := (ins_pos t h.tag zs h.ok).1
  exact ⟨⟨a1, c1, h.blk.cell hg.1, h.ins.at⟩, h.blk.cell hg.2.2, h.blk.frozen 2, by omega⟩
theorem Bod.count {F F' : Nat → Prop} {w w1 : World} {B K t : Nat} {zs ks ks' : List Int} {n m : Nat} (h : Bod F w B K t zs ks n) (hk : KinE F' w1 K t zs ks' n) (hFF : ∀ k, F k → F' k) (hw : But K w w1) (w2 : World) (he : w2 = w1.setCell ⟨K, 2, none⟩ (.int .i64 (m : Int))) : Bod F' w2 B K t zs ks' m := by
  subst he
  refine ⟨?_, hFF _ h.own, h.ne, hk.count m⟩
  have h1 := h.blk.keep (w' := w1) (hw.block B h.blk.lt h.ne)
  exact h1.keep (Below.heap_setCell _ _ _ _ h.ne)
theorem Bod.same {F : Nat → Prop} {w w1 : World} {B K t : Nat} {zs ks : List Int} {n : Nat} (h : Bod F w B K t zs ks n) (hk : KinE F w1 K t zs ks n) (hw : But K w w1) : Bod F w1 B K t zs ks n := ⟨h.blk.keep (hw.block B h.blk.lt h.ne), h.own, h.ne, hk⟩
theorem kin_set8 {F : Nat → Prop} {w w' : World} {K : Nat} {zs ks : List Int} {n : Nat} {y : Int} (hk : KinE F w K 8 zs ks n) (hy : fitB y = true) (hB : ∀ a1 c1 a2 c2, BlkA (kT 8) K w #[.slice a1 1 c1, .slice a2 1 c2, .int .i64 n, .int .i64 (nth ks 0)] → BlkA (kT 8) K w' #[.slice a1 1 c1, .slice a2 1 c2, .int .i64 n, .int .i64 y]) (hw : But K w w') : KinE F w' K 8 zs [y] n := by
  obtain ⟨a1, a2, a3, a4, c1, c2, c3, c4, h⟩ := hk
  have keep : ∀ a, (∀ x : Addr, a = some x → F x.block) → (∀ x, a = some x → x.block ≠ K) → ∀ x, a = some x → w'.heap[x.block]? = w.heap[x.block]? := fun a h1 h2 x hx => hw.block _ (h.low _ (h1 x hx)) (h2 x hx)
  refine ⟨a1, a2, a3, a4, c1, c2, c3, c4, hB a1 c1 a2 c2 h.blk, h.ins.keep (keep a1 h.f1 h.rows.1), h.outs.keep (keep a2 h.f2 h.rows.2.1), (fun e => by cases e), (fun e => by cases e), h.own, h.f1, h.f2, (fun e => by cases e), (fun e => by cases e), ⟨h.rows.1, h.rows.2.1, (fun e => by cases e), (fun e => by cases e)⟩, (fun e => by cases e), h.tag, h.ok, ⟨fun k => ?_, (fun e => by cases e), fun _ => rfl, fun _ e => absurd rfl e⟩, h.inr, fun k hF => Nat.lt_of_lt_of_le (h.low k hF) hw.size⟩
  have := fitB_true.1 hy
  cases k with
  | zero => exact this
  | succ k => rw [nth_none (by simp)]; decide
theorem kin_set10 {F : Nat → Prop} {w w' : World} {K : Nat} {zs ks : List Int} {n : Nat} {y : Int} (hk : KinE F w K 10 zs ks n) (hy : fitB y = true) (hB : ∀ a1 c1 a2 c2, BlkA (kT 10) K w #[.slice a1 0 c1, .slice a2 1 c2, .int .i64 n, .int .i64 (nth ks 0), .int .i64 (nth zs 1)] → BlkA (kT 10) K w' #[.slice a1 0 c1, .slice a2 1 c2, .int .i64 n, .int .i64 y, .int .i64 (nth zs 1)]) (hw : But K w w') : KinE F w' K 10 zs [y] n := by
  obtain ⟨a1, a2, a3, a4, c1, c2, c3, c4, h⟩ := hk
  have keep : ∀ a, (∀ x : Addr, a = some x → F x.block) → (∀ x, a = some x → x.block ≠ K) → ∀ x, a = some x → w'.heap[x.block]? = w.heap[x.block]? := fun a h1 h2 x hx => hw.block _ (h.low _ (h1 x hx)) (h2 x hx)
  refine ⟨a1, a2, a3, a4, c1, c2, c3, c4, hB a1 c1 a2 c2 h.blk, h.ins.keep (keep a1 h.f1 h.rows.1), h.outs.keep (keep a2 h.f2 h.rows.2.1), (fun e => by cases e), (fun e => by cases e), h.own, h.f1, h.f2, (fun e => by cases e), (fun e => by cases e), ⟨h.rows.1, h.rows.2.1, (fun e => by cases e), (fun e => by cases e)⟩, (fun e => by cases e), h.tag, h.ok, ⟨fun k => ?_, (fun e => by cases e), fun _ => rfl, fun _ _ e => absurd rfl e⟩, h.inr, fun k hF => Nat.lt_of_lt_of_le (h.low k hF) hw.size⟩
  have := fitB_true.1 hy
  cases k with
  | zero => exact this
  | succ k => rw [nth_none (by simp)]; decide
set_option maxRecDepth 100000 in
set_option maxHeartbeats 2000000 in
theorem fire_8 (F : Nat → Prop) (w : World) (K : Nat) (zs ks : List Int) (n : Nat) (a : Option Addr) (len cap : Nat) (I : List (List Int)) (hk : KinE F w K 8 zs ks n) (hA : ArgL w a len I) (ht : takesS 8 zs I = true) :
    Calls Try.prog 80 #[.pointer (some ⟨K, 0, none⟩), .slice a len cap] w (GaveK F w K 8 zs ks n I) := by
  have HK := hidden6 hk
  have S : Hid (∀ (x : Int) V, Calls Try.prog 68 #[.int .i64 x] V (SingleEnd V x)) := fun x V => single_any x V
  obtain ⟨a1, a2, a3, a4, c1, c2, c3, c4, h⟩ := hk
  have hp := (ins_pos 8 (by decide) zs h.ok).2 0 (by show 0 < 1; decide)
  obtain ⟨b, off, xb, xo, m, c, rfl, l0, m0, hm, y0, y1⟩ := first_tok hA ht (by show 0 < 1; decide) hp.1
  have l0i : (0 : Int) < (len : Int) := by omega
  have m0i : (0 : Int) < (m : Int) := by omega
  have hx := hA.fits 0 0
  have s0 : w.cell? ⟨K, 3, none⟩ = some (.int .i64 (nth ks 0)) := h.blk.cell (k := 3) rfl
  have sf := h.blk.frozen 3
  have lw : (⟨K, 3, none⟩ : Addr).block < w.heap.size := h.blk.lt
  have hks := h.keep.1 0
  have KS : Hid (∀ y w', fitB y = true → (∀ a1 c1 a2 c2, BlkA (kT 8) K w #[.slice a1 1 c1, .slice a2 1 c2, .int .i64 n, .int .i64 (nth ks 0)] → BlkA (kT 8) K w' #[.slice a1 1 c1, .slice a2 1 c2, .int .i64 n, .int .i64 y]) → But K w w' → KinE F w' K 8 zs [y] n) := fun y w' h1 h2 h3 => kin_set8 HK.out h1 h2 h3
  have G0 : giveS 8 zs ks I = if fitB (nth ks 0 + nth (nthL I 0) 0) = true then some ([[nth ks 0 + nth (nthL I 0) 0]], [nth ks 0 + nth (nthL I 0) 0]) else none := rfl
  clear hA ht h hp hm
  generalize nth (nthL I 0) 0 = x at *
  generalize nth ks 0 = k0 at *
  have AD := hidden6 (fun V => add_any k0 x V hks hx)
  by_cases hf : fitB (k0 + x) = true
  · rw [if_pos hf] at G0
    have GV := hidden6 G0
    have hv := fitV_yes (fitB_true.1 hf)
    rw [hv, hf] at AD
    have HFT := hidden6 hf
    clear hks hv G0 hf
    generalize k0 + x = y at *
    go_enter Try.func80, Try.ntmps80
    go_wp2
    go_quiet (first | (go_at_call 70; (with_reducible refine (AD.out _).mono ?_); rintro e w' ⟨rfl, rfl⟩; exact ⟨rfl, _, rfl⟩))
    go_wp2_with (go_at_call 68; (with_reducible refine (S.out y _).mono ?_); rintro e w1 ⟨g, A, C, rfl, hO, b1⟩)
    go_ret2
    have hq := bdrew (Below.refl w.heap.size w) nq
    have bW : But K w ((w.drewN nq).setCell ⟨K, 3, none⟩ (.int .i64 y)) := (But.of_below hq).trans (But.set _ K 3 _)
    have kW := KS.out y _ HFT.out (fun a1 c1 a2 c2 hb => (hb.below hq).set 3 (.int .i64 y)) bW
    unfold GaveK
    rw [GV.out]
    refine ⟨_, _, A, C, F, rfl, ?_, kW.below b1, fun k h => .inl h, fun k h => h, bW.trans (But.of_below b1)⟩
    simp only [World.size_setCell, drew_size] at hO
    exact hO
  · rw [if_neg hf] at G0
    have GV := hidden6 G0
    have hf2 : fitB (k0 + x) = false := by simpa using hf
    rw [hf2] at AD
    clear hks G0 hf hf2
    generalize k0 + x = y at *
    go_enter Try.func80, Try.ntmps80
    go_wp2
    go_quiet (first | (go_at_call 70; (with_reducible refine (AD.out _).mono ?_); rintro e w' ⟨rfl, rfl⟩; exact ⟨rfl, _, rfl⟩))
    go_wp2
    go_ret2
    exact gave_none GV.out HK.out (bdrew (Below.refl _ _) nq)
set_option maxRecDepth 100000 in
set_option maxHeartbeats 2000000 in
theorem fire_10 (F : Nat → Prop) (w : World) (K : Nat) (zs ks : List Int) (n : Nat) (a : Option Addr) (len cap : Nat) (I : List (List Int)) (hk : KinE F w K 10 zs ks n) (hA : ArgL w a len I) (ht : takesS 10 zs I = true) :
    Calls Try.prog 83 #[.pointer (some ⟨K, 0, none⟩), .slice a len cap] w (GaveK F w K 10 zs ks n I) := by
  have HK := hidden6 hk
  have S : Hid (∀ (x : Int) V, Calls Try.prog 68 #[.int .i64 x] V (SingleEnd V x)) := fun x V => single_any x V
  obtain ⟨a1, a2, a3, a4, c1, c2, c3, c4, h⟩ := hk
  have u1 := hA.size
  have u2 := takes_len ht
  clear u1 u2
  have s0 : w.cell? ⟨K, 3, none⟩ = some (.int .i64 (nth ks 0)) := h.blk.cell (k := 3) rfl
  have s1 : w.cell? ⟨K, 4, none⟩ = some (.int .i64 (nth zs 1)) := h.blk.cell (k := 4) rfl
  have sf := h.blk.frozen 3
  have lw : (⟨K, 3, none⟩ : Addr).block < w.heap.size := h.blk.lt
  have hks := h.keep.1 0
  have hp1 := h.inr 1
  have KS : Hid (∀ y w', fitB y = true → (∀ a1 c1 a2 c2, BlkA (kT 10) K w #[.slice a1 0 c1, .slice a2 1 c2, .int .i64 n, .int .i64 (nth ks 0), .int .i64 (nth zs 1)] → BlkA (kT 10) K w' #[.slice a1 0 c1, .slice a2 1 c2, .int .i64 n, .int .i64 y, .int .i64 (nth zs 1)]) → But K w w' → KinE F w' K 10 zs [y] n) := fun y w' h1 h2 h3 => kin_set10 HK.out h1 h2 h3
  have G0 : giveS 10 zs ks I = if fitB (nth ks 0 + nth zs 1) = true then some ([[nth ks 0]], [nth ks 0 + nth zs 1]) else none := rfl
  clear hA ht h
  generalize nth zs 1 = p at *
  generalize nth ks 0 = k0 at *
  have AD := hidden6 (fun V => add_any k0 p V hks hp1)
  by_cases hf : fitB (k0 + p) = true
  · rw [if_pos hf] at G0
    have GV := hidden6 G0
    have hv := fitV_yes (fitB_true.1 hf)
    rw [hv, hf] at AD
    have HFT := hidden6 hf
    clear hks hv G0 hf
    generalize k0 + p = y at *
    go_enter Try.func83, Try.ntmps83
    go_wp2
    go_quiet (first | (go_at_call 70; (with_reducible refine (AD.out _).mono ?_); rintro e w' ⟨rfl, rfl⟩; exact ⟨rfl, _, rfl⟩))
    go_wp2_with (go_at_call 68; (with_reducible refine (S.out k0 _).mono ?_); rintro e w1 ⟨g, A, C, rfl, hO, b1⟩; have b2 := (bdrew (Below.refl w.heap.size w) nq).trans (drew_below b1); have s0 := cell_keep6 b2 s0; have sf := (b2.frozen lw).trans sf)
    go_ret2
    have bW := (But.of_below (K := K) b2).trans (But.set w1 K 3 (.int .i64 y))
    have kW := KS.out y _ HFT.out (fun a1 c1 a2 c2 hb => (hb.below b2).set 3 (.int .i64 y)) bW
    unfold GaveK
    rw [GV.out]
    simp only [drew_size] at hO
    exact ⟨_, _, A, C, F, rfl, hO.keep (fun k h1 h2 => Below.heap_setCell _ _ _ _ (by simp only; omega)) (by simp), kW, fun k h => .inl h, fun k h => h, bW⟩
  · rw [if_neg hf] at G0
    have GV := hidden6 G0
    have hf2 : fitB (k0 + p) = false := by simpa using hf
    rw [hf2] at AD
    clear hks G0 hf hf2
    generalize k0 + p = y at *
    go_enter Try.func83, Try.ntmps83
    go_wp2
    go_quiet (first | (go_at_call 70; (with_reducible refine (AD.out _).mono ?_); rintro e w' ⟨rfl, rfl⟩; exact ⟨rfl, _, rfl⟩))
    go_wp2
    go_ret2
    exact gave_none GV.out HK.out (bdrew (Below.refl _ _) nq)
set_option maxRecDepth 100000 in
set_option maxHeartbeats 2000000 in
theorem bfire_8 (F : Nat → Prop) (w : World) (B K : Nat) (zs ks : List Int) (n : Nat) (a : Option Addr) (len cap : Nat) (I : List (List Int)) (hb : Bod F w B K 8 zs ks n) (hA : ArgL w a len I) (hn : n < 4611686018427387904) :
    Calls Try.prog 18 #[.pointer (some ⟨B, 0, none⟩), .slice a len cap] w (FireEnd F w B K 8 zs ks n I) := by
  obtain ⟨⟨a1, c1, k0, kA⟩, k2, k3, k4⟩ := hb.kin.cells
  have y0 : w.cell? ⟨B, 0, none⟩ = some (.iface 84 (.pointer (some ⟨K, 0, none⟩))) := hb.blk.cell (k := 0) rfl
  have NO := hidden6 (none_no B _ _ w y0)
  have TK := hidden6 (takes_any K w a1 c1 (insS 8 zs) a len cap I k0 kA k4 hA.size hA.lies)
  have HB := hidden6 hb
  by_cases ht : takesS 8 zs I = true
  · have HT := hidden6 ht
    have FI := hidden6 (fire_8 F w K zs ks n a len cap I hb.kin hA ht)
    unfold GaveK at FI
    have ht2 : decide (I.map (fun l => (l.length : Int)) = insS 8 zs) = true := ht
    rw [ht2] at TK
    clear kA ht ht2 k0 hA hb k2 k3 k4
    cases hg : giveS 8 zs ks I with
    | none =>
      rw [hg] at FI
      simp only at FI
      have GV := hidden6 hg
      clear hg
      go_enter Try.func18, Try.ntmps18
      go_wp2_with (first | (go_at_call 80; (with_reducible refine FI.out.mono ?_); rintro e w1 ⟨⟨v, rfl⟩, hK, b1⟩) | (go_at_call 65; (with_reducible refine TK.out.mono ?_); rintro e v1 ⟨rfl, rfl⟩) | (go_at_call 29; (with_reducible refine NO.out.mono ?_); rintro e v1 ⟨rfl, rfl⟩))
      go_ret2
      exact end_fail HT.out GV.out (HB.out.same hK b1) b1
    | some p =>
      rw [hg] at FI
      obtain ⟨O, ks'⟩ := p
      simp only at FI
      have GV := hidden6 hg
      clear hg
      go_enter Try.func18, Try.ntmps18
      go_wp2_with (first | (go_at_call 61; (with_reducible refine (count_any K n w1 hK.cells.2.1 hK.cells.2.2.1 hn).mono ?_); rintro e w2 ⟨rfl, rfl⟩) | (go_at_call 80; (with_reducible refine FI.out.mono ?_); rintro e w1 ⟨x, c, A, C, F', rfl, hO, hK, hF, hFF, b1⟩; have y0 := (World.cell?_of_block (a := ⟨B, 0, none⟩) (b1.block B HB.out.blk.lt HB.out.ne)).trans y0) | (go_at_call 65; (with_reducible refine TK.out.mono ?_); rintro e v1 ⟨rfl, rfl⟩) | (go_at_call 29; (with_reducible refine NO.out.mono ?_); rintro e v1 ⟨rfl, rfl⟩))
      go_ret2
      refine end_ok (C := C) HT.out GV.out ?_ ?_ hF (b1.trans (But.set _ _ _ _))
      · have hKl := HB.out.kin.mem
        have := hKl.2 K hKl.1
        exact hO.keep (fun k h1 h2 => Below.heap_setCell _ _ _ _ (by simp only; omega)) (by simp)
      · exact HB.out.count hK (fun k h => hFF k h) b1 _ (by first | rfl | simp)
  · have HT := hidden6 ht
    have ht2 : decide (I.map (fun l => (l.length : Int)) = insS 8 zs) = false := by
      unfold takesS at ht
      simpa using ht
    rw [ht2] at TK
    clear kA ht ht2 k0 hA hb k2 k3 k4
    go_enter Try.func18, Try.ntmps18
    go_wp2_with (first | (go_at_call 65; (with_reducible refine TK.out.mono ?_); rintro e v1 ⟨rfl, rfl⟩) | (go_at_call 29; (with_reducible refine NO.out.mono ?_); rintro e v1 ⟨rfl, rfl⟩))
    go_ret2
    exact end_arg HT.out HB.out
set_option maxRecDepth 100000 in
theorem bfired_8 (F : Nat → Prop) (w : World) (B K : Nat) (zs ks : List Int) (n : Nat) (hb : Bod F w B K 8 zs ks n) : Calls Try.prog 19 #[.pointer (some ⟨B, 0, none⟩)] w fun e w' => e = .returned (.int .i64 (n : Int)) ∧ w' = w := by
  have y0 : w.cell? ⟨B, 0, none⟩ = some (.iface 84 (.pointer (some ⟨K, 0, none⟩))) := hb.blk.cell (k := 0) rfl
  have NO := hidden6 (none_no B _ _ w y0)
  have TI := hidden6 (timesK_any K n w hb.kin.cells.2.1)
  clear hb
  go_enter Try.func19, Try.ntmps19
  go_wp2_with (first | (go_at_call 66; (with_reducible refine TI.out.mono ?_); rintro e v1 ⟨rfl, rfl⟩) | (go_at_call 29; (with_reducible refine NO.out.mono ?_); rintro e v1 ⟨rfl, rfl⟩))
  go_ret
  exact ⟨rfl, rfl⟩
set_option maxRecDepth 100000 in
theorem bstate_8 (F : Nat → Prop) (w : World) (B K : Nat) (zs ks : List Int) (n : Nat) (hb : Bod F w B K 8 zs ks n) : Calls Try.prog 20 #[.pointer (some ⟨B, 0, none⟩)] w (RowEnd w ks) := by
  have y0 : w.cell? ⟨B, 0, none⟩ = some (.iface 84 (.pointer (some ⟨K, 0, none⟩))) := hb.blk.cell (k := 0) rfl
  have NO := hidden6 (none_no B _ _ w y0)
  obtain ⟨a1, a2, a3, a4, c1, c2, c3, c4, h⟩ := hb.kin
  have e0 : ks = [nth ks 0] := by
    have h1 := h.keep.2.2.1 (by decide)
    match ks, h1 with
    | [x], _ => rfl
  have KE := hidden6 (keeps_sum K (nth ks 0) w (h.blk.cell (k := 3) rfl))
  have E0 := hidden6 e0
  rw [← e0] at KE
  unfold RowEnd at KE ⊢
  clear e0 E0
  clear hb h
  go_enter Try.func20, Try.ntmps20
  go_wp2_with (first | (go_at_call 81; (with_reducible refine KE.out.mono ?_); rintro e w1 ⟨x, c, rfl, hx, b1⟩) | (go_at_call 29; (with_reducible refine NO.out.mono ?_); rintro e v1 ⟨rfl, rfl⟩))
  go_ret
  exact ⟨x, c, rfl, hx, b1⟩
set_option maxRecDepth 100000 in
set_option maxHeartbeats 2000000 in
theorem fire_3 (F : Nat → Prop) (w : World) (K : Nat) (zs ks : List Int) (n : Nat) (a : Option Addr) (len cap : Nat) (I : List (List Int)) (hk : KinE F w K 3 zs ks n) (hA : ArgL w a len I) (ht : takesS 3 zs I = true) :
    Calls Try.prog 74 #[.pointer (some ⟨K, 0, none⟩), .slice a len cap] w (GaveK F w K 3 zs ks n I) := by
  have HK := hidden6 hk
  have S : Hid (∀ (x : Int) V, Calls Try.prog 68 #[.int .i64 x] V (SingleEnd V x)) := fun x V => single_any x V
  obtain ⟨a1, a2, a3, a4, c1, c2, c3, c4, h⟩ := hk
  have hp := (ins_pos 3 (by decide) zs h.ok).2 0 (by show 0 < 1; decide)
  obtain ⟨b, off, xb, xo, m, c, rfl, l0, m0, hm, y0, y1⟩ := first_tok hA ht (by show 0 < 1; decide) hp.1
  have l0i : (0 : Int) < (len : Int) := by omega
  have m0i : (0 : Int) < (m : Int) := by omega
  have hx := hA.fits 0 0
  have GV : Hid (giveS 3 zs ks I = some ([[nth (nthL I 0) 0]], ks)) := hidden6 rfl
  clear hA ht h hp hm
  generalize nth (nthL I 0) 0 = x at *
  go_enter Try.func74, Try.ntmps74
  go_wp2_with (go_at_call 68; (with_reducible refine (S.out x w).mono ?_); rintro e w1 ⟨g, A, C, rfl, hO, b1⟩)
  go_ret2
  exact gave_plain GV.out HK.out hO b1
set_option maxRecDepth 100000 in
set_option maxHeartbeats 2000000 in
theorem fire_11 (F : Nat → Prop) (w : World) (K : Nat) (zs ks : List Int) (n : Nat) (a : Option Addr) (len cap : Nat) (I : List (List Int)) (hk : KinE F w K 11 zs ks n) (hA : ArgL w a len I) (ht : takesS 11 zs I = true) :
    Calls Try.prog 85 #[.pointer (some ⟨K, 0, none⟩), .slice a len cap] w (GaveK F w K 11 zs ks n I) := by
  have HK := hidden6 hk
  have S : Hid (∀ (x : Int) V, Calls Try.prog 68 #[.int .i64 x] V (SingleEnd V x)) := fun x V => single_any x V
  obtain ⟨a1, a2, a3, a4, c1, c2, c3, c4, h⟩ := hk
  have u1 := hA.size
  have u2 := takes_len ht
  have GV : Hid (giveS 11 zs ks I = some ([], ks)) := hidden6 rfl
  clear hA ht h u1 u2
  go_enter Try.func85, Try.ntmps85
  go_wp2
  go_ret2
  exact gave_plain (c := 0) GV.out HK.out (outT_nil _ _) (Below.refl _ _)
theorem table_one (V : World) (B g c : Nat) (zs : List Int) (hB : B ≤ V.heap.size) (h1 : CapR B V (some ⟨g, 0, none⟩) c zs) : OutT B (V.alloc (.cells #[.slice (some ⟨g, 0, none⟩) zs.length c] 22)) (fun _ => some ⟨g, 0, none⟩) (fun _ => c) (some ⟨V.heap.size, 0, none⟩) [zs] := by
  have hb := (Below.refl V.heap.size V).alloc (Nat.le_refl _) (.cells #[.slice (some ⟨g, 0, none⟩) zs.length c] 22)
  refine ⟨fun j hj => ?_, fun j k y z hj hk hn => ?_, .inr ⟨_, rfl, hB, by simp, fun j hj => ?_, fun j y _ hy => ?_⟩⟩
  · match j, hj with
    | 0, _ => exact h1.later hb
  · simp at hj hk; omega
  · match j, hj with
    | 0, _ => exact (blkA_new 22 V #[.slice (some ⟨g, 0, none⟩) zs.length c]).cell rfl
  · cases hy
    have := (h1.lt _ rfl).2
    simp only at this ⊢
    omega
theorem made_zero {w0 : World} {B g n : Nat} (h : w0.ownsRow B 3 1 (.slice (some ⟨g, 0, none⟩) n n) n (madeCells (Value.cells (.int .i64 0)) (n * 1)).toList) : CapR B w0 (some ⟨g, 0, none⟩) n (List.replicate n 0) := by
  unfold CapR
  have e : (madeCells (Value.cells (.int .i64 0)) (n * 1)).toList = (List.replicate n 0).map (Value.int .i64) := by
    show (madeCells #[.int .i64 0] (n * 1)).toList = _
    apply List.ext_getElem?
    intro k
    rw [Nat.mul_one]
    by_cases hk : k < n <;> simp [madeCells, hk, Nat.mod_one]
  rw [e] at h
  simpa using h
set_option maxRecDepth 100000 in
set_option maxHeartbeats 2000000 in
theorem fire_2 (F : Nat → Prop) (w : World) (K : Nat) (zs ks : List Int) (n : Nat) (a : Option Addr) (len cap : Nat) (I : List (List Int)) (hk : KinE F w K 2 zs ks n) (hA : ArgL w a len I) (ht : takesS 2 zs I = true) :
    Calls Try.prog 72 #[.pointer (some ⟨K, 0, none⟩), .slice a len cap] w (GaveK F w K 2 zs ks n I) := by
  have HK := hidden6 hk
  have S : Hid (∀ (x : Int) V, Calls Try.prog 68 #[.int .i64 x] V (SingleEnd V x)) := fun x V => single_any x V
  obtain ⟨a1, a2, a3, a4, c1, c2, c3, c4, h⟩ := hk
  have hp := (ins_pos 2 (by decide) zs h.ok).2 0 (by show 0 < 1; decide)
  obtain ⟨b, off, xb, xo, m, c, rfl, l0, m0, hm, y0, y1⟩ := first_tok hA ht (by show 0 < 1; decide) hp.1
  have l0i : (0 : Int) < (len : Int) := by omega
  have m0i : (0 : Int) < (m : Int) := by omega
  have hx := hA.fits 0 0
  have z1 : w.cell? ⟨K, 1, none⟩ = some (.slice a2 1 c2) := h.blk.cell (k := 1) rfl
  have z2 := h.outs.at
  have hok := (ok_one rfl h.ok).2
  obtain ⟨N, hN⟩ : ∃ N : Nat, nth zs 0 = (N : Int) := ⟨(nth zs 0).toNat, by omega⟩
  have GV : Hid (giveS 2 zs ks I = some ([upS N (nth (nthL I 0) 0)], ks)) := by
    show some ([upS (nth zs 0).toNat (nth (nthL I 0) 0)], ks) = _
    rw [hN]; rfl
  rcases z2 with h0 | ⟨ob, oo, rfl, oc⟩
  · exact absurd h0 (by show [nth zs 0] ≠ []; simp)
  have z3 : w.cell? ⟨ob, oo, none⟩ = some (.int .i64 (N : Int)) := by rw [← hN]; exact oc 0 (by show 0 < 1; decide)
  have hN1 : 1 ≤ N ∧ N ≤ 64 := by omega
  obtain ⟨i0, hi, hz0, hz1, hz2⟩ := info_parts Try.info3
  clear hA ht h hp hm oc hok hN
  generalize nth (nthL I 0) 0 = x at *
  go_enter Try.func72, Try.ntmps72
  go_wp2_with (at_make; refine wpList_make_full _ rfl _ _ 22 rfl w.heap.size 3 i0 (.int .i64 0) 1 Try.underlying22 hi hz0 hz1 _ _ _ _ N rfl rfl rfl rfl (by rw [hz2]; omega) (by unfold maxLen; omega) (Nat.le_refl _) ?_; intro w0 hown0 hgrow0; have B0 := hidden6 ((Below.refl w.heap.size w).grown hgrow0 (Nat.le_refl _) (fun k h => by cases h)); have C0 := hidden6 (made_zero hown0); have y0 := cell_keep6 B0.out y0; have y1 := cell_keep6 B0.out y1; have q0 : w0.cell? ⟨w.heap.size, 0, none⟩ = some (.int .i64 0) := (by have e : List.replicate N (0 : Int) = [] ++ 0 :: List.replicate (N - 1) 0 := (by rw [List.nil_append, ← List.replicate_succ, show N - 1 + 1 = N by omega]); have h1 := C0.out; rw [e] at h1; exact h1.hd (k := 0) rfl); have q1 := C0.out.fz 0; have Q := hidden6 (C0.out); clear hown0 hgrow0)
  go_ret2
  have e : List.replicate N (0 : Int) = [] ++ 0 :: List.replicate (N - 1) 0 := by rw [List.nil_append, ← List.replicate_succ, show N - 1 + 1 = N by omega]
  have e2 : upS N x = [] ++ x :: List.replicate (N - 1) 0 := by
    unfold upS; rw [e]; rfl
  have h1 := C0.out
  rw [e] at h1
  have h2 := h1.set (k := 0) x rfl
  rw [← e2] at h2
  have h3 := table_one _ _ _ _ _ (by have := B0.out.size; simp; omega) h2
  simp only [World.size_setCell, up_len] at h3
  exact gave_plain GV.out HK.out h3 ((B0.out.setCell (p := ⟨w.heap.size, 0, none⟩) (Nat.le_refl _) _).alloc (by have := B0.out.size; simp; omega) _)
theorem take_nth {L : List Int} {k : Nat} (h : k < L.length) : L.take (k + 1) = L.take k ++ [nth L k] := by
  rw [List.take_add_one, List.getElem?_eq_getElem h, nthZ_get h]; rfl
set_option maxRecDepth 100000 in
set_option maxHeartbeats 2000000 in
theorem fire_6 (F : Nat → Prop) (w : World) (K : Nat) (zs ks : List Int) (n : Nat) (a : Option Addr) (len cap : Nat) (I : List (List Int)) (hk : KinE F w K 6 zs ks n) (hA : ArgL w a len I) (ht : takesS 6 zs I = true) :
    Calls Try.prog 77 #[.pointer (some ⟨K, 0, none⟩), .slice a len cap] w (GaveK F w K 6 zs ks n I) := by
  have HK := hidden6 hk
  have S : Hid (∀ (x : Int) V, Calls Try.prog 68 #[.int .i64 x] V (SingleEnd V x)) := fun x V => single_any x V
  obtain ⟨a1, a2, a3, a4, c1, c2, c3, c4, h⟩ := hk
  obtain ⟨i0, hi, hz0, hz1, hz2⟩ := info_parts Try.info3
  have hl : I.length = len := hA.size
  have h16 := (ins_pos 6 (by decide) zs h.ok).1
  have hl2 := takes_len ht
  have h17 : len ≤ 16 := by omega
  have hone : ∀ k, k < len → (nthL I k).length = 1 := fun k hk => by
    have h1 := takes_nth ht (k := k) (by omega)
    have h3 : (insS 6 zs).length = (nth zs 0).toNat := by show (List.replicate _ _).length = _; simp
    have h2 : nth (insS 6 zs) k = 1 := by show nth (List.replicate _ 1) k = 1; exact nth_rep (by omega)
    omega
  have ONE := hidden6 hone
  have HI := hidden6 hA
  obtain ⟨L, hL⟩ : ∃ L, I.map (nth · 0) = L := ⟨_, rfl⟩
  have hLl : L.length = len := by rw [← hL]; simpa using hl
  have HLN : Hid (∀ k, k < len → nth L k = nth (nthL I k) 0) := fun k hk => by
    rw [← hL, nthZ_get (by simp; omega), nthL_get (by omega)]; simp
  have HR : Hid (InR L) := fun k => by
    by_cases hk : k < len
    · rw [HLN.out k hk]; exact hA.fits k 0
    · rw [nth_none (by omega)]; decide
  have G0 : giveS 6 zs ks I = (sumO 0 L).map fun y => ([[y]], ks) := by rw [← hL]; rfl
  clear hA ht h hone h16 hl2 hL
  have HG := hidden6 G0
  clear G0
  go_enter Try.func77, Try.ntmps77
  go_wp2_with (at_make; refine wpList_make_full _ rfl _ _ 22 rfl w.heap.size 3 i0 (.int .i64 0) 1 Try.underlying22 hi hz0 hz1 _ _ _ _ len rfl rfl rfl rfl (by rw [hz2]; omega) (by unfold maxLen; omega) (Nat.le_refl _) ?_; intro w0 hown0 hgrow0; have B0 := hidden6 ((Below.refl w.heap.size w).grown hgrow0 (Nat.le_refl _) (fun k h => by cases h)); have C0 := hidden6 (made_zero hown0); clear hown0 hgrow0)
  go_loopg [16] len (fun gk v wr => ∃ k : Nat, k ≤ len ∧ gk = len - k ∧ v = .int .i64 (k : Int) ∧ CapR w.heap.size wr (some ⟨w.heap.size, 0, none⟩) len (L.take k ++ List.replicate (len - k) 0) ∧ Below w.heap.size w wr)
  case atStart => exact ⟨0, Nat.zero_le _, rfl, rfl, by simpa using C0.out, B0.out⟩
  case round =>
    clear C0 B0
    obtain ⟨k, hk, rfl, rfl, hC, hB⟩ := hrel
    by_cases hlt : k < len
    · have hki : (k : Int) < (len : Int) := by omega
      have es : List.replicate (len - k) (0 : Int) = 0 :: List.replicate (len - (k + 1)) 0 := by
        rw [show len - k = (len - (k + 1)) + 1 by omega, List.replicate_succ]
      rw [es] at hC
      have hlk : (L.take k).length = k := by rw [List.length_take]; omega
      have hc := hC.hd (k := k) hlk
      have hf := hC.fz k
      obtain ⟨b, off, xb, xo, c, rfl, g1, g2⟩ := tok_cell (HI.out.below hB).lies (i := k) (j := 0) (by omega) (by rw [ONE.out k hlt]; decide)
      rw [ONE.out k hlt] at g1
      rw [← HLN.out k hlt, Nat.add_zero] at g2
      have hC2 : Hid (CapR w.heap.size (wr.setCell ⟨w.heap.size, k, none⟩ (.int .i64 (nth L k))) (some ⟨w.heap.size, 0, none⟩) len (L.take (k + 1) ++ List.replicate (len - (k + 1)) 0)) := by
        have h1 := hC.set (k := k) (nth L k) hlk
        rw [take_nth (by omega), List.append_assoc]
        exact h1
      have HB := hidden6 (hB.setCell (p := ⟨w.heap.size, k, none⟩) (Nat.le_refl _) (.int .i64 (nth L k)))
      clear hC hB es hlk
      generalize nth L k = y at *
      go_wp2
      go_roundg (len - (k + 1))
      case measure => omega
      case rel => exact ⟨k + 1, by omega, rfl, by go_num, hC2.out, HB.out⟩
    · have ek : k = len := by omega
      subst ek
      have hki : ¬ (k : Int) < (k : Int) := by omega
      rw [Nat.sub_self, List.replicate_zero, List.append_nil, List.take_of_length_le (by omega)] at hC
      have SM := hidden6 (sum_any _ L k k wr hLl (by omega) HR.out hC.at)
      have HB := hidden6 hB
      clear hC hB
      unfold sumV sumB at SM
      cases hs : sumO 0 L with
      | none =>
        rw [hs] at SM
        have GV : Hid (giveS 6 zs ks I = none) := by rw [HG.out, hs]; rfl
        clear hs HG
        go_wp2_with (first | (go_at_call 78; (with_reducible refine SM.out.mono ?_); rintro e w2 ⟨rfl, rfl⟩) | (go_at_call 68; (with_reducible refine (S.out _ _).mono ?_); rintro e w1 ⟨g, A, C, rfl, hO, b1⟩))
        go_ret2
        exact gave_none GV.out HK.out (HB.out.trans (b1.mono HB.out.size))
      | some y =>
        rw [hs] at SM
        have GV : Hid (giveS 6 zs ks I = some ([[y]], ks)) := by rw [HG.out, hs]; rfl
        clear hs HG
        go_wp2_with (first | (go_at_call 78; (with_reducible refine SM.out.mono ?_); rintro e w2 ⟨rfl, rfl⟩) | (go_at_call 68; (with_reducible refine (S.out _ _).mono ?_); rintro e w1 ⟨g, A, C, rfl, hO, b1⟩))
        go_ret2
        exact gave_plain GV.out HK.out (hO.mono HB.out.size) (HB.out.trans (b1.mono HB.out.size))
set_option maxRecDepth 100000 in
set_option maxHeartbeats 2000000 in
theorem bfire_6 (F : Nat → Prop) (w : World) (B K : Nat) (zs ks : List Int) (n : Nat) (a : Option Addr) (len cap : Nat) (I : List (List Int)) (hb : Bod F w B K 6 zs ks n) (hA : ArgL w a len I) (hn : n < 4611686018427387904) :
    Calls Try.prog 18 #[.pointer (some ⟨B, 0, none⟩), .slice a len cap] w (FireEnd F w B K 6 zs ks n I) := by
  obtain ⟨⟨a1, c1, k0, kA⟩, k2, k3, k4⟩ := hb.kin.cells
  have y0 : w.cell? ⟨B, 0, none⟩ = some (.iface 80 (.pointer (some ⟨K, 0, none⟩))) := hb.blk.cell (k := 0) rfl
  have NO := hidden6 (none_no B _ _ w y0)
  have TK := hidden6 (takes_any K w a1 c1 (insS 6 zs) a len cap I k0 kA k4 hA.size hA.lies)
  have HB := hidden6 hb
  by_cases ht : takesS 6 zs I = true
  · have HT := hidden6 ht
    have FI := hidden6 (fire_6 F w K zs ks n a len cap I hb.kin hA ht)
    unfold GaveK at FI
    have ht2 : decide (I.map (fun l => (l.length : Int)) = insS 6 zs) = true := ht
    rw [ht2] at TK
    clear kA ht ht2 k0 hA hb k2 k3 k4
    cases hg : giveS 6 zs ks I with
    | none =>
      rw [hg] at FI
      simp only at FI
      have GV := hidden6 hg
      clear hg
      go_enter Try.func18, Try.ntmps18
      go_wp2_with (first | (go_at_call 77; (with_reducible refine FI.out.mono ?_); rintro e w1 ⟨⟨v, rfl⟩, hK, b1⟩) | (go_at_call 65; (with_reducible refine TK.out.mono ?_); rintro e v1 ⟨rfl, rfl⟩) | (go_at_call 29; (with_reducible refine NO.out.mono ?_); rintro e v1 ⟨rfl, rfl⟩))
      go_ret2
      exact end_fail HT.out GV.out (HB.out.same hK b1) b1
    | some p =>
      rw [hg] at FI
      obtain ⟨O, ks'⟩ := p
      simp only at FI
      have GV := hidden6 hg
      clear hg
      go_enter Try.func18, Try.ntmps18
      go_wp2_with (first | (go_at_call 61; (with_reducible refine (count_any K n w1 hK.cells.2.1 hK.cells.2.2.1 hn).mono ?_); rintro e w2 ⟨rfl, rfl⟩) | (go_at_call 77; (with_reducible refine FI.out.mono ?_); rintro e w1 ⟨x, c, A, C, F', rfl, hO, hK, hF, hFF, b1⟩; have y0 := (World.cell?_of_block (a := ⟨B, 0, none⟩) (b1.block B HB.out.blk.lt HB.out.ne)).trans y0) | (go_at_call 65; (with_reducible refine TK.out.mono ?_); rintro e v1 ⟨rfl, rfl⟩) | (go_at_call 29; (with_reducible refine NO.out.mono ?_); rintro e v1 ⟨rfl, rfl⟩))
      go_ret2
      refine end_ok (C := C) HT.out GV.out ?_ ?_ hF (b1.trans (But.set _ _ _ _))
      · have hKl := HB.out.kin.mem
        have := hKl.2 K hKl.1
        exact hO.keep (fun k h1 h2 => Below.heap_setCell _ _ _ _ (by simp only; omega)) (by simp)
      · exact HB.out.count hK (fun k h => hFF k h) b1 _ (by first | rfl | simp)
  · have HT := hidden6 ht
    have ht2 : decide (I.map (fun l => (l.length : Int)) = insS 6 zs) = false := by
      unfold takesS at ht
      simpa using ht
    rw [ht2] at TK
    clear kA ht ht2 k0 hA hb k2 k3 k4
    go_enter Try.func18, Try.ntmps18
    go_wp2_with (first | (go_at_call 65; (with_reducible refine TK.out.mono ?_); rintro e v1 ⟨rfl, rfl⟩) | (go_at_call 29; (with_reducible refine NO.out.mono ?_); rintro e v1 ⟨rfl, rfl⟩))
    go_ret2
    exact end_arg HT.out HB.out
set_option maxRecDepth 100000 in
theorem bfired_6 (F : Nat → Prop) (w : World) (B K : Nat) (zs ks : List Int) (n : Nat) (hb : Bod F w B K 6 zs ks n) : Calls Try.prog 19 #[.pointer (some ⟨B, 0, none⟩)] w fun e w' => e = .returned (.int .i64 (n : Int)) ∧ w' = w := by
  have y0 : w.cell? ⟨B, 0, none⟩ = some (.iface 80 (.pointer (some ⟨K, 0, none⟩))) := hb.blk.cell (k := 0) rfl
  have NO := hidden6 (none_no B _ _ w y0)
  have TI := hidden6 (timesK_any K n w hb.kin.cells.2.1)
  clear hb
  go_enter Try.func19, Try.ntmps19
  go_wp2_with (first | (go_at_call 66; (with_reducible refine TI.out.mono ?_); rintro e v1 ⟨rfl, rfl⟩) | (go_at_call 29; (with_reducible refine NO.out.mono ?_); rintro e v1 ⟨rfl, rfl⟩))
  go_ret
  exact ⟨rfl, rfl⟩
set_option maxRecDepth 100000 in
theorem bstate_6 (F : Nat → Prop) (w : World) (B K : Nat) (zs ks : List Int) (n : Nat) (hb : Bod F w B K 6 zs ks n) : Calls Try.prog 20 #[.pointer (some ⟨B, 0, none⟩)] w (RowEnd w ks) := by
  have y0 : w.cell? ⟨B, 0, none⟩ = some (.iface 80 (.pointer (some ⟨K, 0, none⟩))) := hb.blk.cell (k := 0) rfl
  have NO := hidden6 (none_no B _ _ w y0)
  obtain ⟨a1, a2, a3, a4, c1, c2, c3, c4, h⟩ := hb.kin
  have e0 : ks = [] := h.keep.2.2.2 (by decide) (by decide) (by decide)
  have KE := hidden6 (keeps_none (.pointer (some ⟨K, 0, none⟩)) w)
  subst e0
  clear hb h
  go_enter Try.func20, Try.ntmps20
  go_wp2_with (first | (go_at_call 73; (with_reducible refine KE.out.mono ?_); rintro e w1 ⟨rfl, rfl⟩) | (go_at_call 29; (with_reducible refine NO.out.mono ?_); rintro e v1 ⟨rfl, rfl⟩))
  go_ret
  exact ⟨none, 0, rfl, CapR.nil _ _, Below.refl _ _⟩
structure TabS (B : Nat) (w wr : World) (H N : Nat) (D : Nat → Option Addr) (E : Nat → Nat) (Y : Nat → List Int) : Prop where
  own : ∀ j, j < N → CapR B wr (D j) (E j) (Y j)
  long : wr.rowIs H 22 N (fun j => .slice (D j) (Y j).length (E j))
  dd : ∀ j k x y, j < N → k < N → j ≠ k → D j = some x → D k = some y → x.block ≠ y.block
  dt : ∀ j x, j < N → D j = some x → x.block ≠ H
  bel : Below B w wr
  low : B ≤ H
theorem tabS_start (w : World) (N : Nat) : TabS w.heap.size w (w.alloc (.cells (madeCells #[.slice none 0 0] N) 22)) w.heap.size N (fun _ => none) (fun _ => 0) (fun _ => []) :=
  ⟨fun _ _ => CapR.nil _ _, World.rowIs_made w (.slice none 0 0) N 22, (fun _ _ _ _ _ _ _ h => by cases h), (fun _ _ _ h => by cases h), (Below.refl _ _).alloc (Nat.le_refl _) _, Nat.le_refl _⟩
theorem TabS.put {B : Nat} {w wr w2 : World} {H N i c : Nat} {D : Nat → Option Addr} {E : Nat → Nat} {Y : Nat → List Int} {d : Option Addr} {L : List Int} (h : TabS B w wr H N D E Y) (hi : i < N) (hd : CapR B w2 d c L) (hk : ∀ k, k < wr.heap.size → (∀ y, D i = some y → y.block ≠ k) → w2.heap[k]? = wr.heap[k]?) (hb : Below B wr w2) (hn : ∀ z, d = some z → D i = some z ∨ wr.heap.size ≤ z.block) :
    TabS B w (w2.setCell ⟨H, i, none⟩ (.slice d L.length c)) H N (upd D i d) (upd E i c) (upd Y i L) := by
  have hH := h.long.lt
  have dH : ∀ z, d = some z → z.block ≠ H := fun z hz => by
    rcases hn z hz with h1 | h1
    · exact h.dt i z hi h1
    · omega
  have far : ∀ j x z, j < N → j ≠ i → D j = some x → d = some z → x.block ≠ z.block := fun j x z hj hji hx hz => by
    rcases hn z hz with h1 | h1
    · exact h.dd j i x z hj hi hji hx h1
    · have := ((h.own j hj).lt x hx).2; omega
  refine ⟨fun j hj => ?_, ?_, fun j k x y hj hk' hjk hx hy => ?_, fun j x hj hx => ?_, (h.bel.trans hb).setCell (p := ⟨H, i, none⟩) h.low _, h.low⟩
  · by_cases e : j = i
    · subst e
      rw [upd_eq, upd_eq, upd_eq]
      exact hd.setOther (ad := ⟨H, j, none⟩) dH _
    · rw [upd_ne e, upd_ne e, upd_ne e]
      refine ((h.own j hj).keep fun x hx => hk _ ((h.own j hj).lt x hx).2 fun y hy => (h.dd j i x y hj hi e hx hy).symm).setOther (ad := ⟨H, i, none⟩) (fun x hx => h.dt j x hj hx) _
  · refine ((h.long.of_block (hk H hH fun y hy => h.dt i y hi hy)).set i _).congr fun j hj => ?_
    by_cases e : j = i
    · subst e; rw [if_pos rfl, upd_eq, upd_eq, upd_eq]
    · rw [if_neg e, upd_ne e, upd_ne e, upd_ne e]
  · by_cases e : j = i
    · subst e
      rw [upd_eq] at hx
      rw [upd_ne (Ne.symm hjk)] at hy
      exact (far k y x hk' (Ne.symm hjk) hy hx).symm
    · rw [upd_ne e] at hx
      by_cases e2 : k = i
      · subst e2
        rw [upd_eq] at hy
        exact far j x y hj e hx hy
      · rw [upd_ne e2] at hy
        exact h.dd j k x y hj hk' hjk hx hy
  · by_cases e : j = i
    · subst e; rw [upd_eq] at hx; exact dH x hx
    · rw [upd_ne e] at hx; exact h.dt j x hj hx
theorem TabS.out {B : Nat} {w wr : World} {H N : Nat} {D : Nat → Option Addr} {E : Nat → Nat} {Y : Nat → List Int} (h : TabS B w wr H N D E Y) : OutT B wr D E (some ⟨H, 0, none⟩) ((List.range N).map Y) := by
  have hl : ((List.range N).map Y).length = N := by simp
  refine ⟨fun j hj => ?_, fun j k y z hj hk => h.dd j k y z (by omega) (by omega), .inr ⟨H, rfl, h.low, h.long.lt, fun j hj => ?_, fun j y hj hy => h.dt j y (by omega) hy⟩⟩
  · rw [nthL_map (by omega)]; exact h.own j (by omega)
  · rw [nthL_map (by omega)]; exact h.long.cell (by omega)
/-- How many of the first k places belong to port j. -/
def cntS (N k j : Nat) : Nat := k / N + if j < k % N then 1 else 0
theorem cnt_step {N k : Nat} (hN : 0 < N) : ∀ j, j < N → cntS N (k + 1) j = cntS N k j + if j = k % N then 1 else 0 := by
  intro j hj
  have e := Nat.div_add_mod k N
  have hp := Nat.mod_lt k hN
  unfold cntS
  generalize k / N = a at *
  generalize k % N = p at *
  subst e
  by_cases h1 : p + 1 < N
  · rw [Nat.add_assoc, Nat.mul_add_div hN, Nat.mul_add_mod, Nat.div_eq_of_lt h1, Nat.mod_eq_of_lt h1]
    split <;> split <;> split <;> omega
  · have h2 : p + 1 = N := by omega
    rw [Nat.add_assoc, h2, ← Nat.mul_succ, Nat.mul_div_cancel_left _ hN, Nat.mul_mod_right]
    split <;> split <;> split <;> omega
theorem cnt_end {N M j : Nat} (hN : 0 < N) : cntS N (N * M) j = M := by
  unfold cntS
  rw [Nat.mul_div_cancel_left _ hN, Nat.mul_mod_right]
  simp
theorem cnt_here {N k : Nat} : cntS N k (k % N) = k / N := by unfold cntS; simp
set_option maxRecDepth 100000 in
set_option maxHeartbeats 2000000 in
theorem fire_9 (F : Nat → Prop) (w : World) (K : Nat) (zs ks : List Int) (n : Nat) (a : Option Addr) (len cap : Nat) (I : List (List Int)) (hk : KinE F w K 9 zs ks n) (hA : ArgL w a len I) (ht : takesS 9 zs I = true) :
    Calls Try.prog 82 #[.pointer (some ⟨K, 0, none⟩), .slice a len cap] w (GaveK F w K 9 zs ks n I) := by
  have HK := hidden6 hk
  have S : Hid (∀ (x : Int) V, Calls Try.prog 68 #[.int .i64 x] V (SingleEnd V x)) := fun x V => single_any x V
  obtain ⟨a1, a2, a3, a4, c1, c2, c3, c4, h⟩ := hk
  have hp := (ins_pos 9 (by decide) zs h.ok).2 0 (by show 0 < 1; decide)
  obtain ⟨b, off, xb, xo, m, c, rfl, l0, m0, hm, y0, y1⟩ := first_tok hA ht (by show 0 < 1; decide) hp.1
  have l0i : (0 : Int) < (len : Int) := by omega
  have m0i : (0 : Int) < (m : Int) := by omega
  have hx := hA.fits 0 0
  have hok := (ok_one rfl h.ok).2
  obtain ⟨N, hN⟩ : ∃ N : Nat, nth zs 0 = (N : Int) := ⟨(nth zs 0).toNat, by omega⟩
  have hol : (outsS 9 zs).length = N := by show (List.replicate (nth zs 0).toNat 1).length = N; rw [hN]; simp
  have z1 : w.cell? ⟨K, 1, none⟩ = some (.slice a2 (outsS 9 zs).length c2) := h.blk.cell (k := 1) rfl
  rw [hol] at z1
  have GV : Hid (giveS 9 zs ks I = some (List.replicate N [nth (nthL I 0) 0], ks)) := by
    show some (List.replicate (nth zs 0).toNat [nth (nthL I 0) 0], ks) = _
    rw [hN]; rfl
  have hN1 : 1 ≤ N ∧ N ≤ 16 := by omega
  have hmk := run_make_row' (P := Try.prog) 37 22 (.slice none 0 0) 24 Try.underlying37 Try.info22 rfl .i64 .i64 N (by omega) (by omega)
  have ST := hidden6 (tabS_start w N)
  clear hA ht h hp hm hok hol hN
  generalize nth (nthL I 0) 0 = x at *
  go_enter Try.func82, Try.ntmps82
  go_wp2
  clear hmk
  generalize w.alloc (.cells (madeCells #[.slice none 0 0] N) 22) = w0 at *
  go_loopg [17] N (fun gk v wr => ∃ (k : Nat) (D : Nat → Option Addr) (E : Nat → Nat) (Y : Nat → List Int), k ≤ N ∧ gk = N - k ∧ v = .int .i64 (k : Int) ∧ TabS w.heap.size w wr w.heap.size N D E Y ∧ ∀ j, j < k → Y j = [x])
  case atStart => exact ⟨0, _, _, _, Nat.zero_le _, rfl, rfl, ST.out, fun j hj => by omega⟩
  case round =>
    clear ST
    obtain ⟨k, D, E, Y, hk, rfl, rfl, hT, hY⟩ := hrel
    have HT := hidden6 hT
    have HY := hidden6 hY
    clear hT hY
    by_cases hlt : k < N
    · have hki : (k : Int) < (N : Int) := by omega
      have y0' := cell_keep6 HT.out.bel y0
      have y1' := cell_keep6 HT.out.bel y1
      have t1 := HT.out.long.cell hlt
      have t2 := HT.out.long.frozen k
      have hb1 := (Below.refl wr.heap.size wr).alloc (Nat.le_refl _) (.cells #[.int .i64 x] 3)
      have HP := hidden6 (HT.out.put hlt ((capR_one wr x).mono HT.out.bel.size) (fun q h1 _ => hb1.block q h1) (hb1.mono HT.out.bel.size) (fun z hz => by cases hz; exact .inr (Nat.le_refl _)))
      have HY2 : Hid (∀ j, j < k + 1 → upd Y k [x] j = [x]) := fun j hj => by
        by_cases e : j = k
        · subst e; exact upd_eq ..
        · rw [upd_ne e]; exact HY.out j (by omega)
      have hH := HT.out.long.lt
      clear hb1
      go_wp2
      go_roundg (N - (k + 1))
      case measure => omega
      case rel => exact ⟨k + 1, _, _, _, by omega, rfl, by go_num, (by have h9 := HP.out; rw [World.setCell_alloc_past _ _ _ _ hH] at h9; exact h9), HY2.out⟩
    · have ek : k = N := by omega
      subst ek
      have hki : ¬ (k : Int) < (k : Int) := by omega
      have eO : (List.range k).map Y = List.replicate k [x] := list_nthL (by simp) fun j hj => by
        have hj' : j < k := by simpa using hj
        rw [nthL_map hj', nthL_rep hj']; exact HY.out j hj'
      have HO := HT.out.out
      rw [eO] at HO
      have HO2 := hidden6 HO
      clear HO eO
      go_wp2
      go_ret2
      have := gave_plain (c := k) GV.out HK.out HO2.out HT.out.bel
      rw [List.length_replicate] at this
      exact this
set_option maxRecDepth 100000 in
set_option maxHeartbeats 2000000 in
theorem fire_5 (F : Nat → Prop) (w : World) (K : Nat) (zs ks : List Int) (n : Nat) (a : Option Addr) (len cap : Nat) (I : List (List Int)) (hk : KinE F w K 5 zs ks n) (hA : ArgL w a len I) (ht : takesS 5 zs I = true) :
    Calls Try.prog 76 #[.pointer (some ⟨K, 0, none⟩), .slice a len cap] w (GaveK F w K 5 zs ks n I) := by
  have HK := hidden6 hk
  have S : Hid (∀ (x : Int) V, Calls Try.prog 68 #[.int .i64 x] V (SingleEnd V x)) := fun x V => single_any x V
  obtain ⟨a1, a2, a3, a4, c1, c2, c3, c4, h⟩ := hk
  have hp := (ins_pos 5 (by decide) zs h.ok).2 0 (by show 0 < 1; decide)
  obtain ⟨b, off, xb, xo, m, c, rfl, l0, m0, hm, y0, y1⟩ := first_tok hA ht (by show 0 < 1; decide) hp.1
  have l0i : (0 : Int) < (len : Int) := by omega
  have m0i : (0 : Int) < (m : Int) := by omega
  have hx := hA.fits 0 0
  obtain ⟨i0, hi, hz0, hz1, hz2⟩ := info_parts Try.info3
  have hok := (ok_two rfl h.ok).2
  obtain ⟨N, hN⟩ : ∃ N : Nat, nth zs 0 = (N : Int) := ⟨(nth zs 0).toNat, by omega⟩
  obtain ⟨M, hM⟩ : ∃ M : Nat, nth zs 1 = (M : Int) := ⟨(nth zs 1).toNat, by omega⟩
  rw [hN, hM] at hok
  have hol : (outsS 5 zs).length = N := by show (List.replicate (nth zs 0).toNat (nth zs 1)).length = N; rw [hN]; simp
  have z1 : w.cell? ⟨K, 1, none⟩ = some (.slice a2 (outsS 5 zs).length c2) := h.blk.cell (k := 1) rfl
  rw [hol] at z1
  obtain ⟨R, hR⟩ : ∃ R, nthL I 0 = R := ⟨_, rfl⟩
  have hml : m = N * M := by
    have h1 := takes_nth ht (k := 0) (by have := hA.size; omega)
    have h2 : nth (insS 5 zs) 0 = ((N * M : Nat) : Int) := by show nth zs 0 * nth zs 1 = _; rw [hN, hM, Int.natCast_mul]
    omega
  have GV : Hid (giveS 5 zs ks I = some (partS N M R, ks)) := by
    show some (partS (nth zs 0).toNat (nth zs 1).toNat (nthL I 0), ks) = _
    rw [hN, hM, hR]; rfl
  have hN1 : 1 ≤ N ∧ N ≤ 16 := by omega
  have hmb : m ≤ 1024 := by
    have h1 := mul_bound hok.1 hok.2
    rw [← Int.natCast_mul] at h1
    omega
  have RC : Hid (∀ j, j < m → w.cell? ⟨xb, xo + j, none⟩ = some (.int .i64 (nth R j))) := fun j hj => by
    obtain ⟨b', off', xb', xo', c', e, g1, g2⟩ := tok_cell hA.lies (i := 0) (j := j) (by have := hA.size; omega) (by omega)
    cases e
    rw [Nat.add_zero, y0] at g1
    injection g1 with g1
    injection g1 with g3
    cases g3
    rw [hR] at g2
    exact g2
  have HML := hidden6 hml
  have hmk := run_make_row' (P := Try.prog) 37 22 (.slice none 0 0) 24 Try.underlying37 Try.info22 rfl .i64 .i64 N (by omega) (by omega)
  have ST := hidden6 (tabS_start w N)
  have y0a := cell_keep6 ST.out.bel y0
  clear hA ht h hp hm hok hol hN hM hml y1 hx hR
  go_enter Try.func76, Try.ntmps76
  go_wp2
  clear hmk
  generalize w.alloc (.cells (madeCells #[.slice none 0 0] N) 22) = w0 at *
  go_loopg [21] m (fun gk v wr => ∃ (k : Nat) (D : Nat → Option Addr) (E : Nat → Nat) (Y : Nat → List Int), k ≤ m ∧ gk = m - k ∧ v = .int .i64 (k : Int) ∧ TabS w.heap.size w wr w.heap.size N D E Y ∧ ∀ j, j < N → Y j = (List.range (cntS N k j)).map fun q => nth R (q * N + j))
  case atStart => exact ⟨0, _, _, _, Nat.zero_le _, rfl, rfl, ST.out, fun j hj => by unfold cntS; simp⟩
  case round =>
    clear ST
    obtain ⟨k, D, E, Y, hk, rfl, rfl, hT, hY⟩ := hrel
    have HT := hidden6 hT
    have HY := hidden6 hY
    clear hT hY
    by_cases hlt : k < m
    · have hki : (k : Int) < (m : Int) := by omega
      have y0' := cell_keep6 HT.out.bel y0
      have y1' := cell_keep6 HT.out.bel (RC.out k hlt)
      obtain ⟨p, hp⟩ : ∃ p, k % N = p := ⟨_, rfl⟩
      have hpl : p < N := by rw [← hp]; exact Nat.mod_lt _ (by omega)
      have hpi : (p : Int) < (N : Int) := by omega
      have hrem : (k : Int).tmod (N : Int) = (p : Int) := by rw [← hp]; rfl
      have hz : ¬ N = 0 := by omega
      have t1 := HT.out.long.cell hpl
      have t2 := HT.out.long.frozen p
      have hown := HT.out.own p hpl
      have hYp := HY.out p hpl
      have hc1 : cntS N k p = k / N := by rw [← hp]; exact cnt_here
      have hYl : (Y p).length = k / N := by rw [hYp, hc1]; simp
      have hkl : k / N ≤ 1024 := Nat.le_trans (Nat.div_le_self _ _) (by omega)
      have HY2 : Hid (∀ j, j < N → upd Y p (Y p ++ [nth R k]) j = (List.range (cntS N (k + 1) j)).map fun q => nth R (q * N + j)) := fun j hj => by
        have h1 := cnt_step (k := k) (show 0 < N by omega) j hj
        by_cases e : j = p
        · subst e
          rw [if_pos hp.symm] at h1
          rw [upd_eq, h1, List.range_succ, List.map_append, ← hYp, hc1]
          have e2 : k / N * N + j = k := by rw [← hp, Nat.mul_comm]; exact Nat.div_add_mod k N
          simp [e2]
        · rw [if_neg (by omega)] at h1
          rw [upd_ne e, h1]; exact HY.out j hj
      have PUT : Hid (∀ (w2 : World) (v' : Value), w2.ownsRow w.heap.size 3 1 v' (k / N + 1) ((Y p).map (Value.int .i64) ++ [.int .i64 (nth R k)]) → ((∃ g cap, Value.slice (D p) (k / N) (E p) = .slice (some ⟨g, 0, none⟩) (k / N) cap ∧ v' = .slice (some ⟨g, 0, none⟩) (k / N + 1) cap ∧ (wr.alloc (.cells #[.int .i64 (nth R k)] 3)).grownBy w2 (some g)) ∨ (∃ cap, v' = .slice (some ⟨(wr.alloc (.cells #[.int .i64 (nth R k)] 3)).heap.size, 0, none⟩) (k / N + 1) cap ∧ (wr.alloc (.cells #[.int .i64 (nth R k)] 3)).grownBy w2 none)) →
          ∃ d c, v' = .slice d (k / N + 1) c ∧ TabS w.heap.size w (w2.setCell ⟨w.heap.size, p, none⟩ (.slice d (k / N + 1) c)) w.heap.size N (upd D p d) (upd E p c) (upd Y p (Y p ++ [nth R k])) ∧ w2.cell? ⟨w.heap.size, p, none⟩ = some (.slice (D p) (k / N) (E p)) ∧ w2.frozen? ⟨w.heap.size, p, none⟩ = false) := fun w2 v' ho hg => by
        have hT := HT.out
        have hl2 : (Y p ++ [nth R k]).length = k / N + 1 := by simp [hYl]
        have hH := hT.long.lt
        have hsz : (wr.alloc (.cells #[.int .i64 (nth R k)] 3)).heap.size = wr.heap.size + 1 := by simp
        have ba := (Below.refl wr.heap.size wr).alloc (Nat.le_refl _) (.cells #[.int .i64 (nth R k)] 3)
        have capd : ∀ d c, v' = .slice d (k / N + 1) c → CapR w.heap.size w2 d c (Y p ++ [nth R k]) := fun d c e => by
          unfold CapR
          rw [hl2, List.map_append, ← e]
          exact ho
        have fin : ∀ d c row, v' = .slice d (k / N + 1) c → (wr.alloc (.cells #[.int .i64 (nth R k)] 3)).grownBy w2 row → (∀ q, row = some q → ∃ y, D p = some y ∧ y.block = q) → (∀ z, d = some z → D p = some z ∨ wr.heap.size ≤ z.block) → ∃ d c, v' = .slice d (k / N + 1) c ∧ TabS w.heap.size w (w2.setCell ⟨w.heap.size, p, none⟩ (.slice d (k / N + 1) c)) w.heap.size N (upd D p d) (upd E p c) (upd Y p (Y p ++ [nth R k])) ∧ w2.cell? ⟨w.heap.size, p, none⟩ = some (.slice (D p) (k / N) (E p)) ∧ w2.frozen? ⟨w.heap.size, p, none⟩ = false := fun d c row e hgr hrow hz => by
          have hk2 : ∀ q, q < wr.heap.size → (∀ y, D p = some y → y.block ≠ q) → w2.heap[q]? = wr.heap[q]? := fun q h1 h2 => by
            rw [hgr.block q (by omega) (fun e => by obtain ⟨y, h3, h4⟩ := hrow q e.symm; exact h2 y h3 h4)]
            exact ba.block q h1
          have hb2 : Below w.heap.size wr w2 := (ba.mono hT.bel.size).grown hgr (by have := hT.bel.size; omega) (fun q e => by obtain ⟨y, h3, h4⟩ := hrow q e; rw [← h4]; exact ((hT.own p hpl).lt y h3).1)
          have hP := hT.put hpl (capd d c e) hk2 hb2 hz
          rw [hl2] at hP
          have hHb := hk2 w.heap.size hH (fun y hy => hT.dt p y hpl hy)
          refine ⟨d, c, e, hP, ?_, ?_⟩
          · rw [World.cell?_of_block (w := wr) (a := ⟨w.heap.size, p, none⟩) hHb, hT.long.cell hpl, hYl]
          · rw [World.frozen?_of_block (w := wr) (a := ⟨w.heap.size, p, none⟩) hHb]; exact hT.long.frozen p
        rcases hg with ⟨g, cp, e1, e2, hgr⟩ | ⟨cp, e2, hgr⟩
        · injection e1 with e3 e4 e5
          exact fin _ _ _ e2 hgr (fun q e => by cases e; exact ⟨_, e3, rfl⟩) (fun z hz => by cases hz; exact .inl e3)
        · exact fin _ _ _ e2 hgr (fun q e => by cases e) (fun z hz => by cases hz; exact .inr (by simp))
      have hown2 : wr.ownsRow w.heap.size 3 1 (.slice (D p) (k / N) (E p)) (k / N) ((Y p).map (Value.int .i64)) := by rw [← hYl]; exact hown
      rw [hYl] at t1
      have hbs := HT.out.bel.size
      clear hown hYp hc1 hYl HT HY hp
      generalize nth R k = y at *
      generalize k / N = s at *
      generalize (Y p).map (Value.int .i64) = Yi at *
      go_wp2_with (at_builtin; refine wpList_append_told _ rfl (.tmp 35) (.tmp 37) 22 rfl w.heap.size 3 i0 (.int .i64 0) 1 8 Try.underlying22 hi hz0 hz1 hz2 rfl (by decide) _ s _ rfl (World.ownsRow.alloc hown2 _) ⟨wr.heap.size, 0, none⟩ 1 1 (by decide) [.int .i64 y] rfl rfl (one_new' _ _ _) (one_cell' _) (by unfold maxLen; omega) (by omega) (by simp; omega) ?_; intro v' w2 hown' hgrow; obtain ⟨d, c9, rfl, KB, hlc2, hlf2⟩ := PUT.out w2 _ hown' hgrow; have KBB := hidden6 KB; clear KB hown' hgrow hown2 t1 t2)
      go_roundg (m - (k + 1))
      case measure => omega
      case rel => exact ⟨k + 1, _, _, _, by omega, rfl, by go_num, KBB.out, HY2.out⟩
    · have ek : k = m := by omega
      subst ek
      have hki : ¬ (k : Int) < (k : Int) := by omega
      have eO : (List.range N).map Y = partS N M R := list_nthL (by simp [partS]) fun j hj => by
        have hj' : j < N := by simpa using hj
        rw [nthL_map hj', part_nth hj', HY.out j hj', HML.out, cnt_end (by omega)]
      have HO := HT.out.out
      rw [eO] at HO
      have HO2 := hidden6 HO
      clear HO eO
      go_wp2
      go_ret2
      have := gave_plain (c := N) GV.out HK.out HO2.out HT.out.bel
      rw [part_len] at this
      exact this
set_option maxRecDepth 100000 in
set_option maxHeartbeats 2000000 in
theorem bfire_9 (F : Nat → Prop) (w : World) (B K : Nat) (zs ks : List Int) (n : Nat) (a : Option Addr) (len cap : Nat) (I : List (List Int)) (hb : Bod F w B K 9 zs ks n) (hA : ArgL w a len I) (hn : n < 4611686018427387904) :
    Calls Try.prog 18 #[.pointer (some ⟨B, 0, none⟩), .slice a len cap] w (FireEnd F w B K 9 zs ks n I) := by
  obtain ⟨⟨a1, c1, k0, kA⟩, k2, k3, k4⟩ := hb.kin.cells
  have y0 : w.cell? ⟨B, 0, none⟩ = some (.iface 87 (.pointer (some ⟨K, 0, none⟩))) := hb.blk.cell (k := 0) rfl
  have NO := hidden6 (none_no B _ _ w y0)
  have TK := hidden6 (takes_any K w a1 c1 (insS 9 zs) a len cap I k0 kA k4 hA.size hA.lies)
  have HB := hidden6 hb
  by_cases ht : takesS 9 zs I = true
  · have HT := hidden6 ht
    have FI := hidden6 (fire_9 F w K zs ks n a len cap I hb.kin hA ht)
    unfold GaveK at FI
    have ht2 : decide (I.map (fun l => (l.length : Int)) = insS 9 zs) = true := ht
    rw [ht2] at TK
    clear kA ht ht2 k0 hA hb k2 k3 k4
    cases hg : giveS 9 zs ks I with
    | none =>
      rw [hg] at FI
      simp only at FI
      have GV := hidden6 hg
      clear hg
      go_enter Try.func18, Try.ntmps18
      go_wp2_with (first | (go_at_call 82; (with_reducible refine FI.out.mono ?_); rintro e w1 ⟨⟨v, rfl⟩, hK, b1⟩) | (go_at_call 65; (with_reducible refine TK.out.mono ?_); rintro e v1 ⟨rfl, rfl⟩) | (go_at_call 29; (with_reducible refine NO.out.mono ?_); rintro e v1 ⟨rfl, rfl⟩))
      go_ret2
      exact end_fail HT.out GV.out (HB.out.same hK b1) b1
    | some p =>
      rw [hg] at FI
      obtain ⟨O, ks'⟩ := p
      simp only at FI
      have GV := hidden6 hg
      clear hg
      go_enter Try.func18, Try.ntmps18
      go_wp2_with (first | (go_at_call 61; (with_reducible refine (count_any K n w1 hK.cells.2.1 hK.cells.2.2.1 hn).mono ?_); rintro e w2 ⟨rfl, rfl⟩) | (go_at_call 82; (with_reducible refine FI.out.mono ?_); rintro e w1 ⟨x, c, A, C, F', rfl, hO, hK, hF, hFF, b1⟩; have y0 := (World.cell?_of_block (a := ⟨B, 0, none⟩) (b1.block B HB.out.blk.lt HB.out.ne)).trans y0) | (go_at_call 65; (with_reducible refine TK.out.mono ?_); rintro e v1 ⟨rfl, rfl⟩) | (go_at_call 29; (with_reducible refine NO.out.mono ?_); rintro e v1 ⟨rfl, rfl⟩))
      go_ret2
      refine end_ok (C := C) HT.out GV.out ?_ ?_ hF (b1.trans (But.set _ _ _ _))
      · have hKl := HB.out.kin.mem
        have := hKl.2 K hKl.1
        exact hO.keep (fun k h1 h2 => Below.heap_setCell _ _ _ _ (by simp only; omega)) (by simp)
      · exact HB.out.count hK (fun k h => hFF k h) b1 _ (by first | rfl | simp)
  · have HT := hidden6 ht
    have ht2 : decide (I.map (fun l => (l.length : Int)) = insS 9 zs) = false := by
      unfold takesS at ht
      simpa using ht
    rw [ht2] at TK
    clear kA ht ht2 k0 hA hb k2 k3 k4
    go_enter Try.func18, Try.ntmps18
    go_wp2_with (first | (go_at_call 65; (with_reducible refine TK.out.mono ?_); rintro e v1 ⟨rfl, rfl⟩) | (go_at_call 29; (with_reducible refine NO.out.mono ?_); rintro e v1 ⟨rfl, rfl⟩))
    go_ret2
    exact end_arg HT.out HB.out
set_option maxRecDepth 100000 in
theorem bfired_9 (F : Nat → Prop) (w : World) (B K : Nat) (zs ks : List Int) (n : Nat) (hb : Bod F w B K 9 zs ks n) : Calls Try.prog 19 #[.pointer (some ⟨B, 0, none⟩)] w fun e w' => e = .returned (.int .i64 (n : Int)) ∧ w' = w := by
  have y0 : w.cell? ⟨B, 0, none⟩ = some (.iface 87 (.pointer (some ⟨K, 0, none⟩))) := hb.blk.cell (k := 0) rfl
  have NO := hidden6 (none_no B _ _ w y0)
  have TI := hidden6 (timesK_any K n w hb.kin.cells.2.1)
  clear hb
  go_enter Try.func19, Try.ntmps19
  go_wp2_with (first | (go_at_call 66; (with_reducible refine TI.out.mono ?_); rintro e v1 ⟨rfl, rfl⟩) | (go_at_call 29; (with_reducible refine NO.out.mono ?_); rintro e v1 ⟨rfl, rfl⟩))
  go_ret
  exact ⟨rfl, rfl⟩
set_option maxRecDepth 100000 in
theorem bstate_9 (F : Nat → Prop) (w : World) (B K : Nat) (zs ks : List Int) (n : Nat) (hb : Bod F w B K 9 zs ks n) : Calls Try.prog 20 #[.pointer (some ⟨B, 0, none⟩)] w (RowEnd w ks) := by
  have y0 : w.cell? ⟨B, 0, none⟩ = some (.iface 87 (.pointer (some ⟨K, 0, none⟩))) := hb.blk.cell (k := 0) rfl
  have NO := hidden6 (none_no B _ _ w y0)
  obtain ⟨a1, a2, a3, a4, c1, c2, c3, c4, h⟩ := hb.kin
  have e0 : ks = [] := h.keep.2.2.2 (by decide) (by decide) (by decide)
  have KE := hidden6 (keeps_none (.pointer (some ⟨K, 0, none⟩)) w)
  subst e0
  clear hb h
  go_enter Try.func20, Try.ntmps20
  go_wp2_with (first | (go_at_call 73; (with_reducible refine KE.out.mono ?_); rintro e w1 ⟨rfl, rfl⟩) | (go_at_call 29; (with_reducible refine NO.out.mono ?_); rintro e v1 ⟨rfl, rfl⟩))
  go_ret
  exact ⟨none, 0, rfl, CapR.nil _ _, Below.refl _ _⟩
theorem own_some {w : World} {base n cap : Nat} {a : Option Addr} {xs : List Value} (h : w.ownsRow base 3 1 (.slice a n cap) n xs) (hn : 0 < n) : ∃ g, a = some ⟨g, 0, none⟩ := by
  rcases h.2 with ⟨-, h2⟩ | ⟨g, c, cur, hv, -⟩
  · omega
  · cases hv; exact ⟨g, rfl⟩
theorem World_own_lt {w : World} {base g n cap : Nat} {xs : List Value} (h : w.ownsRow base 3 1 (.slice (some ⟨g, 0, none⟩) n cap) n xs) : base ≤ g ∧ g < w.heap.size := by
  rcases h.2 with ⟨hv, -⟩ | ⟨g', c, cur, hv, hg, hh, -⟩
  · cases hv
  · cases hv; exact ⟨hg, (Array.getElem?_eq_some_iff.1 hh).1⟩
theorem take_own {w : World} {base g cap : Nat} {x : Int} {ks : List Int} (h : w.ownsRow base 3 1 (.slice (some ⟨g, 0, none⟩) (1 + ks.length) cap) (1 + ks.length) ((x :: ks).map (Value.int .i64))) : CapR 0 w (some ⟨g, 0, none⟩) cap ((x :: ks).take ks.length) := by
  have e : (x :: ks).map (Value.int .i64) = ((x :: ks).take ks.length).map (Value.int .i64) ++ ((x :: ks).drop ks.length).map (Value.int .i64) := by rw [← List.map_append, List.take_append_drop]
  rw [e] at h
  have h2 := owns_prefix h
  rw [List.length_map] at h2
  exact CapR.mono (base := base) h2 (Nat.zero_le _)
theorem kin_set1 {F : Nat → Prop} {w w' : World} {K tg cap9 : Nat} {zs ks : List Int} {n : Nat} {x : Int} (hk : KinE F w K 1 zs ks n) (hx : -9223372036854775808 ≤ x ∧ x ≤ 9223372036854775807) (hw : But K w w') (hlow : w.heap.size ≤ tg) (htg : tg < w'.heap.size)
    (hB : ∀ a1 c1 a2 c2 a3 c3 a4 c4, BlkA (kT 1) K w #[.slice a1 1 c1, .slice a2 1 c2, .int .i64 n, .slice a3 zs.length c3, .slice a4 ks.length c4] → BlkA (kT 1) K w' #[.slice a1 1 c1, .slice a2 1 c2, .int .i64 n, .slice a3 zs.length c3, .slice (some ⟨tg, 0, none⟩) ks.length cap9])
    (ho : CapR 0 w' (some ⟨tg, 0, none⟩) cap9 ((x :: ks).take ks.length)) : KinE (fun k => F k ∨ k = tg) w' K 1 zs ((x :: ks).take ks.length) n := by
  obtain ⟨a1, a2, a3, a4, c1, c2, c3, c4, h⟩ := hk
  have keep : ∀ a, (∀ x : Addr, a = some x → F x.block) → (∀ x, a = some x → x.block ≠ K) → ∀ x, a = some x → w'.heap[x.block]? = w.heap[x.block]? := fun a h1 h2 x hx => hw.block _ (h.low _ (h1 x hx)) (h2 x hx)
  have hl : ((x :: ks).take ks.length).length = ks.length := by rw [List.length_take]; simp
  have hb := hB a1 c1 a2 c2 a3 c3 a4 c4 h.blk
  refine ⟨a1, a2, a3, some ⟨tg, 0, none⟩, c1, c2, c3, cap9, ?_, h.ins.keep (keep a1 h.f1 h.rows.1), h.outs.keep (keep a2 h.f2 h.rows.2.1), (fun e => (h.taps e).keep (keep a3 (h.f3 e) (h.rows.2.2.1 e))), (fun _ => ho), .inl h.own, (fun x hx => .inl (h.f1 x hx)), (fun x hx => .inl (h.f2 x hx)), (fun e x hx => .inl (h.f3 e x hx)), (fun _ x hx => by cases hx; exact .inr rfl), ⟨h.rows.1, h.rows.2.1, h.rows.2.2.1, (fun _ x hx => by cases hx; have := h.low K h.own; simp only; omega)⟩, (fun _ => ⟨tg, rfl⟩), h.tag, h.ok, ⟨fun k => ?_, fun _ => by rw [hl]; exact h.keep.2.1 rfl, (fun e => by omega), fun e => absurd rfl e⟩, h.inr, ?_⟩
  · rw [hl]; exact hb
  · by_cases hk : k < ks.length
    · have e : nth ((x :: ks).take ks.length) k = nth (x :: ks) k := nth_take hk
      rw [e]
      cases k with
      | zero => exact hx
      | succ k => exact h.keep.1 k
    · rw [nth_none (by omega)]; decide
  · intro k hF
    rcases hF with hF | rfl
    · exact Nat.lt_of_lt_of_le (h.low k hF) hw.size
    · exact htg
set_option maxRecDepth 100000 in
set_option maxHeartbeats 2000000 in
theorem fire_1 (F : Nat → Prop) (w : World) (K : Nat) (zs ks : List Int) (n : Nat) (a : Option Addr) (len cap : Nat) (I : List (List Int)) (hk : KinE F w K 1 zs ks n) (hA : ArgL w a len I) (ht : takesS 1 zs I = true) :
    Calls Try.prog 62 #[.pointer (some ⟨K, 0, none⟩), .slice a len cap] w (GaveK F w K 1 zs ks n I) := by
  have HK := hidden6 hk
  have S : Hid (∀ (x : Int) V, Calls Try.prog 68 #[.int .i64 x] V (SingleEnd V x)) := fun x V => single_any x V
  obtain ⟨a1, a2, a3, a4, c1, c2, c3, c4, h⟩ := hk
  have hp := (ins_pos 1 (by decide) zs h.ok).2 0 (by show 0 < 1; decide)
  obtain ⟨b, off, xb, xo, m, c, rfl, l0, m0, hm, y0, y1⟩ := first_tok hA ht (by show 0 < 1; decide) hp.1
  have l0i : (0 : Int) < (len : Int) := by omega
  have m0i : (0 : Int) < (m : Int) := by omega
  have hx := hA.fits 0 0
  obtain ⟨kg, rfl⟩ := h.some4 rfl
  have z3 : w.cell? ⟨K, 3, none⟩ = some (.slice a3 zs.length c3) := h.blk.cell (k := 3) rfl
  have z4 : w.cell? ⟨K, 4, none⟩ = some (.slice (some ⟨kg, 0, none⟩) ks.length c4) := h.blk.cell (k := 4) rfl
  have zf := h.blk.frozen 4
  have lw : (⟨K, 4, none⟩ : Addr).block < w.heap.size := h.blk.lt
  have hzl : zs.length ≤ 16 := by have := wB_bound (show wB (zs.length : Int) 16 = true from h.ok); omega
  have hkl : ks.length + 1 = zs.length := h.keep.2.1 rfl
  have TA := hidden6 (h.taps rfl).at
  have KA := hidden6 (h.kept rfl).at
  have ZR := hidden6 h.inr
  obtain ⟨i0, hi, hz0, hz1, hz2⟩ := info_parts Try.info3
  have XR : Hid (InR (nth (nthL I 0) 0 :: ks)) := fun k => by
    cases k with
    | zero => exact hx
    | succ k => exact h.keep.1 k
  have LE : Hid (zs.length = (nth (nthL I 0) 0 :: ks).length) := by show _ = _; simp; omega
  have G0 : giveS 1 zs ks I = (dotO 0 zs (nth (nthL I 0) 0 :: ks)).map fun y => ([[y]], (nth (nthL I 0) 0 :: ks).take ks.length) := rfl
  have HX := hidden6 hx
  clear hA ht h hp hm hx
  generalize nth (nthL I 0) 0 = x at *
  cases hd : dotO 0 zs (x :: ks) with
  | none =>
    rw [hd] at G0
    have GV := hidden6 G0
    clear G0
    go_enter Try.func62, Try.ntmps62
    go_wp2
    refine wp_region_said 10 (fun i u v => match i with
        | 0 => v = .slice (some ⟨b, off, none⟩) len cap
        | 1 => v = .pointer (some ⟨b, off, none⟩)
        | 2 => v = .slice (some ⟨xb, xo, none⟩) m c
        | 3 => v = .pointer (some ⟨xb, xo, none⟩)
        | 4 => v = .int .i64 x
        | 5 => Mk w.heap.size u [x] v
        | 6 => v = .pointer (some ⟨K, 0, none⟩)
        | 7 => v = .pointer (some ⟨K, 0, none⟩)
        | 8 => v = .pointer (some ⟨K, 4, none⟩)
        | 9 => v = .slice (some ⟨kg, 0, none⟩) ks.length c4
        | _ => True) (by kernel_rfl) (by kernel_rfl) (by kernel_rfl) (by kernel_rfl) ?_ ?_ ?_
    · intro i w v w' h hb
      match i, h with
      | 0, h => exact h
      | 1, h => exact h
      | 2, h => exact h
      | 3, h => exact h
      | 4, h => exact h
      | 5, h => exact Mk.later h hb
      | 6, h => exact h
      | 7, h => exact h
      | 8, h => exact h
      | 9, h => exact h
      | _ + 10, _ => trivial
    · intro i o ρ w' hi ho hb hc hf hfr hdep
      have k0 := cell_keep6 hb y0
      have k1 := cell_keep6 hb y1
      have k4 := cell_keep6 hb z4
      match i, hi with
      | 0, _ =>
        simp only [gTA, gCZ, gSI] at ho
        subst ho
        have ts : ρ (.tmp 1) = .slice (some ⟨b, off, none⟩) len cap := hfr 1 (by kernel_rfl)
        simp [go_sem, ts]
        exact ⟨Below.refl _ _, rfl⟩
      | 1, _ =>
        simp only [gTA, gCZ, gCS, gSI] at ho
        subst ho
        have ts : ρ (.tmp 9) = .slice (some ⟨b, off, none⟩) len cap := hdep 0 9 (by kernel_rfl) (by kernel_rfl)
        simp [go_sem, ts, hc, l0]
        exact ⟨Below.refl _ _, rfl⟩
      | 2, _ =>
        simp only [gTA, gCZ, gCS, gSI] at ho
        subst ho
        have ts : ρ (.tmp 10) = .pointer (some ⟨b, off, none⟩) := hdep 1 10 (by kernel_rfl) (by kernel_rfl)
        simp [go_sem, ts, k0]
        exact ⟨Below.refl _ _, rfl⟩
      | 3, _ =>
        simp only [gTA, gCZ, gCS, gSI] at ho
        subst ho
        have ts : ρ (.tmp 11) = .slice (some ⟨xb, xo, none⟩) m c := hdep 2 11 (by kernel_rfl) (by kernel_rfl)
        simp [go_sem, ts, hc, m0]
        exact ⟨Below.refl _ _, rfl⟩
      | 4, _ =>
        simp only [gTA, gCZ, gCS, gSI] at ho
        subst ho
        have ts : ρ (.tmp 12) = .pointer (some ⟨xb, xo, none⟩) := hdep 3 12 (by kernel_rfl) (by kernel_rfl)
        simp [go_sem, ts, k1]
        exact ⟨Below.refl _ _, rfl⟩
      | 5, _ =>
        simp only [gTA, gCZ, gCS, gSI] at ho
        subst ho
        have ts : ρ (.tmp 13) = .int .i64 x := hdep 4 13 (by kernel_rfl) (by kernel_rfl)
        simp [go_sem, ts]
        exact ⟨(Below.refl _ _).alloc (Nat.le_refl _) _, _, _, rfl, (capR_one w' x).mono hb.size⟩
      | 6, _ =>
        simp only [gTA, gCZ, gCS, gSI] at ho
        subst ho
        have ts : ρ (.tmp 0) = .pointer (some ⟨K, 0, none⟩) := hfr 0 (by kernel_rfl)
        simp [go_sem, ts]
        exact ⟨Below.refl _ _, rfl⟩
      | 7, _ =>
        simp only [gTA, gCZ, gCS, gSI] at ho
        subst ho
        have ts : ρ (.tmp 15) = .pointer (some ⟨K, 0, none⟩) := hdep 6 15 (by kernel_rfl) (by kernel_rfl)
        simp [go_sem, ts]
        exact ⟨Below.refl _ _, rfl⟩
      | 8, _ =>
        simp only [gTA, gCZ, gCS, gSI] at ho
        subst ho
        have ts : ρ (.tmp 16) = .pointer (some ⟨K, 0, none⟩) := hdep 7 16 (by kernel_rfl) (by kernel_rfl)
        simp [go_sem, ts]
        exact ⟨Below.refl _ _, rfl⟩
      | 9, _ =>
        simp only [gTA, gCZ, gCS, gSI] at ho
        subst ho
        have ts : ρ (.tmp 17) = .pointer (some ⟨K, 4, none⟩) := hdep 8 17 (by kernel_rfl) (by kernel_rfl)
        simp [go_sem, ts, k4]
        exact ⟨Below.refl _ _, rfl⟩
    · intro V w9 q9 hS
      have e0 : V 0 = .slice (some ⟨b, off, none⟩) len cap := hS 0 (by decide)
      have e1 : V 1 = .pointer (some ⟨b, off, none⟩) := hS 1 (by decide)
      have e2 : V 2 = .slice (some ⟨xb, xo, none⟩) m c := hS 2 (by decide)
      have e3 : V 3 = .pointer (some ⟨xb, xo, none⟩) := hS 3 (by decide)
      have e4 : V 4 = .int .i64 x := hS 4 (by decide)
      obtain ⟨a5, n5, e5, M5⟩ : Mk w.heap.size w9 [x] (V 5) := hS 5 (by decide)
      have e6 : V 6 = .pointer (some ⟨K, 0, none⟩) := hS 6 (by decide)
      have e7 : V 7 = .pointer (some ⟨K, 0, none⟩) := hS 7 (by decide)
      have e8 : V 8 = .pointer (some ⟨K, 4, none⟩) := hS 8 (by decide)
      have e9 : V 9 = .slice (some ⟨kg, 0, none⟩) ks.length c4 := hS 9 (by decide)
      simp only [List.drop_succ_cons, List.drop_zero, List.take_succ_cons, List.take_zero, puts, e0, e1, e2, e3, e4, e5, e6, e7, e8, e9]
      clear hS e0 e1 e2 e3 e4 e5 e6 e7 e8 e9 V
      simp only [Act.put, List.setIfInBounds_toArray, List.set_cons_zero, List.set_cons_succ]
      obtain ⟨g5, rfl, hg5, -⟩ := M5.there (by simp)
      have M6 : w9.ownsRow w.heap.size 3 1 (.slice (some ⟨g5, 0, none⟩) 1 n5) 1 [.int .i64 x] := M5
      go_wp2_with (first | (go_at_call 67; (with_reducible refine DT.out.mono ?_); rintro e w2 ⟨rfl, rfl⟩) | (at_builtin; refine wpList_append_own _ rfl _ _ 22 rfl w.heap.size 3 i0 (.int .i64 0) 1 8 Try.underlying22 hi hz0 hz1 hz2 rfl (by decide) (.slice (some ⟨g5, 0, none⟩) 1 n5) 1 [.int .i64 x] rfl M6 ⟨kg, 0, none⟩ ks.length c4 (ks.map (Value.int .i64)) rfl (by simp) (lies_new (KA.out.below q9)) (ints_oneCell _ _) (by unfold maxLen; omega) (by omega) q9.size ?_; intro v9 w1 hown hgrow hnil; clear hnil; have hown1 : w1.ownsRow w.heap.size 3 1 v9 (1 + ks.length) ((x :: ks).map (Value.int .i64)) := (by simpa using hown); obtain ⟨a9, cap9, rfl, hlen9, hat9, hc9, hn9, hb9⟩ := owns_at hown1; obtain ⟨tg, rfl⟩ : ∃ tg, a9 = some ⟨tg, 0, none⟩ := own_some hown1 (by omega); have B1 : Hid (Below w.heap.size w w1) := q9.grown hgrow q9.size (fun k h => by cases h; exact hg5); have OW := hidden6 hown1; have DT := hidden6 (dot_any a3 (some ⟨tg, 0, none⟩) zs (x :: ks) zs.length c3 (1 + ks.length) cap9 w1 rfl (by simp; omega) (by omega) (by omega) ZR.out XR.out (TA.out.below B1.out) hat9); unfold dotV dotB at DT; rw [if_pos LE.out, decide_eq_true LE.out, hd] at DT; have z3 := cell_keep6 B1.out z3; have z4 := cell_keep6 B1.out z4; have zf := (B1.out.frozen (p := ⟨K, 4, none⟩) lw).trans zf; have h9 : ks.length ≤ cap9 := (by omega); have h9i : (ks.length : Int) ≤ (cap9 : Int) := (by omega); clear hown hgrow hown1 hat9 hn9 hb9 M5 M6))
      go_ret2
      exact gave_none GV.out HK.out B1.out
  | some y =>
    rw [hd] at G0
    have GV := hidden6 G0
    clear G0
    go_enter Try.func62, Try.ntmps62
    go_wp2
    refine wp_region_said 10 (fun i u v => match i with
        | 0 => v = .slice (some ⟨b, off, none⟩) len cap
        | 1 => v = .pointer (some ⟨b, off, none⟩)
        | 2 => v = .slice (some ⟨xb, xo, none⟩) m c
        | 3 => v = .pointer (some ⟨xb, xo, none⟩)
        | 4 => v = .int .i64 x
        | 5 => Mk w.heap.size u [x] v
        | 6 => v = .pointer (some ⟨K, 0, none⟩)
        | 7 => v = .pointer (some ⟨K, 0, none⟩)
        | 8 => v = .pointer (some ⟨K, 4, none⟩)
        | 9 => v = .slice (some ⟨kg, 0, none⟩) ks.length c4
        | _ => True) (by kernel_rfl) (by kernel_rfl) (by kernel_rfl) (by kernel_rfl) ?_ ?_ ?_
    · intro i w v w' h hb
      match i, h with
      | 0, h => exact h
      | 1, h => exact h
      | 2, h => exact h
      | 3, h => exact h
      | 4, h => exact h
      | 5, h => exact Mk.later h hb
      | 6, h => exact h
      | 7, h => exact h
      | 8, h => exact h
      | 9, h => exact h
      | _ + 10, _ => trivial
    · intro i o ρ w' hi ho hb hc hf hfr hdep
      have k0 := cell_keep6 hb y0
      have k1 := cell_keep6 hb y1
      have k4 := cell_keep6 hb z4
      match i, hi with
      | 0, _ =>
        simp only [gTA, gCZ, gSI] at ho
        subst ho
        have ts : ρ (.tmp 1) = .slice (some ⟨b, off, none⟩) len cap := hfr 1 (by kernel_rfl)
        simp [go_sem, ts]
        exact ⟨Below.refl _ _, rfl⟩
      | 1, _ =>
        simp only [gTA, gCZ, gCS, gSI] at ho
        subst ho
        have ts : ρ (.tmp 9) = .slice (some ⟨b, off, none⟩) len cap := hdep 0 9 (by kernel_rfl) (by kernel_rfl)
        simp [go_sem, ts, hc, l0]
        exact ⟨Below.refl _ _, rfl⟩
      | 2, _ =>
        simp only [gTA, gCZ, gCS, gSI] at ho
        subst ho
        have ts : ρ (.tmp 10) = .pointer (some ⟨b, off, none⟩) := hdep 1 10 (by kernel_rfl) (by kernel_rfl)
        simp [go_sem, ts, k0]
        exact ⟨Below.refl _ _, rfl⟩
      | 3, _ =>
        simp only [gTA, gCZ, gCS, gSI] at ho
        subst ho
        have ts : ρ (.tmp 11) = .slice (some ⟨xb, xo, none⟩) m c := hdep 2 11 (by kernel_rfl) (by kernel_rfl)
        simp [go_sem, ts, hc, m0]
        exact ⟨Below.refl _ _, rfl⟩
      | 4, _ =>
        simp only [gTA, gCZ, gCS, gSI] at ho
        subst ho
        have ts : ρ (.tmp 12) = .pointer (some ⟨xb, xo, none⟩) := hdep 3 12 (by kernel_rfl) (by kernel_rfl)
        simp [go_sem, ts, k1]
        exact ⟨Below.refl _ _, rfl⟩
      | 5, _ =>
        simp only [gTA, gCZ, gCS, gSI] at ho
        subst ho
        have ts : ρ (.tmp 13) = .int .i64 x := hdep 4 13 (by kernel_rfl) (by kernel_rfl)
        simp [go_sem, ts]
        exact ⟨(Below.refl _ _).alloc (Nat.le_refl _) _, _, _, rfl, (capR_one w' x).mono hb.size⟩
      | 6, _ =>
        simp only [gTA, gCZ, gCS, gSI] at ho
        subst ho
        have ts : ρ (.tmp 0) = .pointer (some ⟨K, 0, none⟩) := hfr 0 (by kernel_rfl)
        simp [go_sem, ts]
        exact ⟨Below.refl _ _, rfl⟩
      | 7, _ =>
        simp only [gTA, gCZ, gCS, gSI] at ho
        subst ho
        have ts : ρ (.tmp 15) = .pointer (some ⟨K, 0, none⟩) := hdep 6 15 (by kernel_rfl) (by kernel_rfl)
        simp [go_sem, ts]
        exact ⟨Below.refl _ _, rfl⟩
      | 8, _ =>
        simp only [gTA, gCZ, gCS, gSI] at ho
        subst ho
        have ts : ρ (.tmp 16) = .pointer (some ⟨K, 0, none⟩) := hdep 7 16 (by kernel_rfl) (by kernel_rfl)
        simp [go_sem, ts]
        exact ⟨Below.refl _ _, rfl⟩
      | 9, _ =>
        simp only [gTA, gCZ, gCS, gSI] at ho
        subst ho
        have ts : ρ (.tmp 17) = .pointer (some ⟨K, 4, none⟩) := hdep 8 17 (by kernel_rfl) (by kernel_rfl)
        simp [go_sem, ts, k4]
        exact ⟨Below.refl _ _, rfl⟩
    · intro V w9 q9 hS
      have e0 : V 0 = .slice (some ⟨b, off, none⟩) len cap := hS 0 (by decide)
      have e1 : V 1 = .pointer (some ⟨b, off, none⟩) := hS 1 (by decide)
      have e2 : V 2 = .slice (some ⟨xb, xo, none⟩) m c := hS 2 (by decide)
      have e3 : V 3 = .pointer (some ⟨xb, xo, none⟩) := hS 3 (by decide)
      have e4 : V 4 = .int .i64 x := hS 4 (by decide)
      obtain ⟨a5, n5, e5, M5⟩ : Mk w.heap.size w9 [x] (V 5) := hS 5 (by decide)
      have e6 : V 6 = .pointer (some ⟨K, 0, none⟩) := hS 6 (by decide)
      have e7 : V 7 = .pointer (some ⟨K, 0, none⟩) := hS 7 (by decide)
      have e8 : V 8 = .pointer (some ⟨K, 4, none⟩) := hS 8 (by decide)
      have e9 : V 9 = .slice (some ⟨kg, 0, none⟩) ks.length c4 := hS 9 (by decide)
      simp only [List.drop_succ_cons, List.drop_zero, List.take_succ_cons, List.take_zero, puts, e0, e1, e2, e3, e4, e5, e6, e7, e8, e9]
      clear hS e0 e1 e2 e3 e4 e5 e6 e7 e8 e9 V
      simp only [Act.put, List.setIfInBounds_toArray, List.set_cons_zero, List.set_cons_succ]
      obtain ⟨g5, rfl, hg5, -⟩ := M5.there (by simp)
      have M6 : w9.ownsRow w.heap.size 3 1 (.slice (some ⟨g5, 0, none⟩) 1 n5) 1 [.int .i64 x] := M5
      go_wp2_with (first | (go_at_call 67; (with_reducible refine DT.out.mono ?_); rintro e w2 ⟨rfl, rfl⟩) | (go_at_call 68; (with_reducible refine (S.out y _).mono ?_); rintro e w3 ⟨g, A, C, rfl, hO, b3⟩) | (at_builtin; refine wpList_append_own _ rfl _ _ 22 rfl w.heap.size 3 i0 (.int .i64 0) 1 8 Try.underlying22 hi hz0 hz1 hz2 rfl (by decide) (.slice (some ⟨g5, 0, none⟩) 1 n5) 1 [.int .i64 x] rfl M6 ⟨kg, 0, none⟩ ks.length c4 (ks.map (Value.int .i64)) rfl (by simp) (lies_new (KA.out.below q9)) (ints_oneCell _ _) (by unfold maxLen; omega) (by omega) q9.size ?_; intro v9 w1 hown hgrow hnil; clear hnil; have hown1 : w1.ownsRow w.heap.size 3 1 v9 (1 + ks.length) ((x :: ks).map (Value.int .i64)) := (by simpa using hown); obtain ⟨a9, cap9, rfl, hlen9, hat9, hc9, hn9, hb9⟩ := owns_at hown1; obtain ⟨tg, rfl⟩ : ∃ tg, a9 = some ⟨tg, 0, none⟩ := own_some hown1 (by omega); have B1 : Hid (Below w.heap.size w w1) := q9.grown hgrow q9.size (fun k h => by cases h; exact hg5); have OW := hidden6 hown1; have DT := hidden6 (dot_any a3 (some ⟨tg, 0, none⟩) zs (x :: ks) zs.length c3 (1 + ks.length) cap9 w1 rfl (by simp; omega) (by omega) (by omega) ZR.out XR.out (TA.out.below B1.out) hat9); unfold dotV dotB at DT; rw [if_pos LE.out, decide_eq_true LE.out, hd] at DT; have z3 := cell_keep6 B1.out z3; have z4 := cell_keep6 B1.out z4; have zf := (B1.out.frozen (p := ⟨K, 4, none⟩) lw).trans zf; have h9 : ks.length ≤ cap9 := (by omega); have h9i : (ks.length : Int) ≤ (cap9 : Int) := (by omega); clear hown hgrow hown1 hat9 hn9 hb9 M5 M6))
      go_ret2
      have bW : But K w (w1.setCell ⟨K, 4, none⟩ (.slice (some ⟨tg, 0, none⟩) ks.length cap9)) := (But.of_below B1.out).trans (But.set _ K 4 _)
      have hgl := World_own_lt OW.out
      have hcap : CapR 0 (w1.setCell ⟨K, 4, none⟩ (.slice (some ⟨tg, 0, none⟩) ks.length cap9)) (some ⟨tg, 0, none⟩) cap9 ((x :: ks).take ks.length) := (take_own OW.out).setOther (fun z hz => by cases hz; simp only at lw ⊢; omega) _
      have kW := kin_set1 (x := x) HK.out HX.out bW hgl.1 (by simp; exact hgl.2) (fun a1 c1 a2 c2 a3 c3 a4 c4 hb => (hb.below B1.out).set 4 _) hcap
      unfold GaveK
      rw [GV.out]
      refine ⟨_, _, A, C, _, rfl, ?_, kW.below b3, fun k h => ?_, fun k h => .inl h, bW.trans (But.of_below b3)⟩
      · simp only [World.size_setCell] at hO
        exact hO.mono B1.out.size
      · rcases h with h | rfl
        · exact .inl h
        · refine .inr ⟨hgl.1, fun j z hj hz => ?_⟩
          have h1 := ((hO.rows j hj).lt z hz).1
          simp only [World.size_setCell] at h1
          omega
set_option maxRecDepth 100000 in
set_option maxHeartbeats 2000000 in
theorem bfire_1 (F : Nat → Prop) (w : World) (B K : Nat) (zs ks : List Int) (n : Nat) (a : Option Addr) (len cap : Nat) (I : List (List Int)) (hb : Bod F w B K 1 zs ks n) (hA : ArgL w a len I) (hn : n < 4611686018427387904) :
    Calls Try.prog 18 #[.pointer (some ⟨B, 0, none⟩), .slice a len cap] w (FireEnd F w B K 1 zs ks n I) := by
  obtain ⟨⟨a1, c1, k0, kA⟩, k2, k3, k4⟩ := hb.kin.cells
  have y0 : w.cell? ⟨B, 0, none⟩ = some (.iface 68 (.pointer (some ⟨K, 0, none⟩))) := hb.blk.cell (k := 0) rfl
  have NO := hidden6 (none_no B _ _ w y0)
  have TK := hidden6 (takes_any K w a1 c1 (insS 1 zs) a len cap I k0 kA k4 hA.size hA.lies)
  have HB := hidden6 hb
  by_cases ht : takesS 1 zs I = true
  · have HT := hidden6 ht
    have FI := hidden6 (fire_1 F w K zs ks n a len cap I hb.kin hA ht)
    unfold GaveK at FI
    have ht2 : decide (I.map (fun l => (l.length : Int)) = insS 1 zs) = true := ht
    rw [ht2] at TK
    clear kA ht ht2 k0 hA hb k2 k3 k4
    cases hg : giveS 1 zs ks I with
    | none =>
      rw [hg] at FI
      simp only at FI
      have GV := hidden6 hg
      clear hg
      go_enter Try.func18, Try.ntmps18
      go_wp2_with (first | (go_at_call 62; (with_reducible refine FI.out.mono ?_); rintro e w1 ⟨⟨v, rfl⟩, hK, b1⟩) | (go_at_call 65; (with_reducible refine TK.out.mono ?_); rintro e v1 ⟨rfl, rfl⟩) | (go_at_call 29; (with_reducible refine NO.out.mono ?_); rintro e v1 ⟨rfl, rfl⟩))
      go_ret2
      exact end_fail HT.out GV.out (HB.out.same hK b1) b1
    | some p =>
      rw [hg] at FI
      obtain ⟨O, ks'⟩ := p
      simp only at FI
      have GV := hidden6 hg
      clear hg
      go_enter Try.func18, Try.ntmps18
      go_wp2_with (first | (go_at_call 61; (with_reducible refine (count_any K n w1 hK.cells.2.1 hK.cells.2.2.1 hn).mono ?_); rintro e w2 ⟨rfl, rfl⟩) | (go_at_call 62; (with_reducible refine FI.out.mono ?_); rintro e w1 ⟨x, c, A, C, F', rfl, hO, hK, hF, hFF, b1⟩; have y0 := (World.cell?_of_block (a := ⟨B, 0, none⟩) (b1.block B HB.out.blk.lt HB.out.ne)).trans y0) | (go_at_call 65; (with_reducible refine TK.out.mono ?_); rintro e v1 ⟨rfl, rfl⟩) | (go_at_call 29; (with_reducible refine NO.out.mono ?_); rintro e v1 ⟨rfl, rfl⟩))
      go_ret2
      refine end_ok (C := C) HT.out GV.out ?_ ?_ hF (b1.trans (But.set _ _ _ _))
      · have hKl := HB.out.kin.mem
        have := hKl.2 K hKl.1
        exact hO.keep (fun k h1 h2 => Below.heap_setCell _ _ _ _ (by simp only; omega)) (by simp)
      · exact HB.out.count hK (fun k h => hFF k h) b1 _ (by first | rfl | simp)
  · have HT := hidden6 ht
    have ht2 : decide (I.map (fun l => (l.length : Int)) = insS 1 zs) = false := by
      unfold takesS at ht
      simpa using ht
    rw [ht2] at TK
    clear kA ht ht2 k0 hA hb k2 k3 k4
    go_enter Try.func18, Try.ntmps18
    go_wp2_with (first | (go_at_call 65; (with_reducible refine TK.out.mono ?_); rintro e v1 ⟨rfl, rfl⟩) | (go_at_call 29; (with_reducible refine NO.out.mono ?_); rintro e v1 ⟨rfl, rfl⟩))
    go_ret2
    exact end_arg HT.out HB.out
set_option maxRecDepth 100000 in
theorem bfired_1 (F : Nat → Prop) (w : World) (B K : Nat) (zs ks : List Int) (n : Nat) (hb : Bod F w B K 1 zs ks n) : Calls Try.prog 19 #[.pointer (some ⟨B, 0, none⟩)] w fun e w' => e = .returned (.int .i64 (n : Int)) ∧ w' = w := by
  have y0 : w.cell? ⟨B, 0, none⟩ = some (.iface 68 (.pointer (some ⟨K, 0, none⟩))) := hb.blk.cell (k := 0) rfl
  have NO := hidden6 (none_no B _ _ w y0)
  have TI := hidden6 (timesK_any K n w hb.kin.cells.2.1)
  clear hb
  go_enter Try.func19, Try.ntmps19
  go_wp2_with (first | (go_at_call 66; (with_reducible refine TI.out.mono ?_); rintro e v1 ⟨rfl, rfl⟩) | (go_at_call 29; (with_reducible refine NO.out.mono ?_); rintro e v1 ⟨rfl, rfl⟩))
  go_ret
  exact ⟨rfl, rfl⟩
set_option maxRecDepth 100000 in
theorem bstate_1 (F : Nat → Prop) (w : World) (B K : Nat) (zs ks : List Int) (n : Nat) (hb : Bod F w B K 1 zs ks n) : Calls Try.prog 20 #[.pointer (some ⟨B, 0, none⟩)] w (RowEnd w ks) := by
  have y0 : w.cell? ⟨B, 0, none⟩ = some (.iface 68 (.pointer (some ⟨K, 0, none⟩))) := hb.blk.cell (k := 0) rfl
  have NO := hidden6 (none_no B _ _ w y0)
  obtain ⟨a1, a2, a3, a4, c1, c2, c3, c4, h⟩ := hb.kin
  have KE := hidden6 (keeps_filter K a4 c4 ks w (h.blk.cell (k := 4) rfl) (by have := h.keep.2.1 rfl; have := wB_bound (show wB (zs.length : Int) 16 = true from h.ok); omega) (h.some4 rfl) (h.kept rfl).at)
  unfold RowEnd at KE ⊢
  clear hb h
  go_enter Try.func20, Try.ntmps20
  go_wp2_with (first | (go_at_call 63; (with_reducible refine KE.out.mono ?_); rintro e w1 ⟨x, c, rfl, hx, b1⟩) | (go_at_call 29; (with_reducible refine NO.out.mono ?_); rintro e v1 ⟨rfl, rfl⟩))
  go_ret
  exact ⟨x, c, rfl, hx, b1⟩
set_option maxRecDepth 100000 in
set_option maxHeartbeats 2000000 in
theorem bfire_2 (F : Nat → Prop) (w : World) (B K : Nat) (zs ks : List Int) (n : Nat) (a : Option Addr) (len cap : Nat) (I : List (List Int)) (hb : Bod F w B K 2 zs ks n) (hA : ArgL w a len I) (hn : n < 4611686018427387904) :
    Calls Try.prog 18 #[.pointer (some ⟨B, 0, none⟩), .slice a len cap] w (FireEnd F w B K 2 zs ks n I) := by
  obtain ⟨⟨a1, c1, k0, kA⟩, k2, k3, k4⟩ := hb.kin.cells
  have y0 : w.cell? ⟨B, 0, none⟩ = some (.iface 71 (.pointer (some ⟨K, 0, none⟩))) := hb.blk.cell (k := 0) rfl
  have NO := hidden6 (none_no B _ _ w y0)
  have TK := hidden6 (takes_any K w a1 c1 (insS 2 zs) a len cap I k0 kA k4 hA.size hA.lies)
  have HB := hidden6 hb
  by_cases ht : takesS 2 zs I = true
  · have HT := hidden6 ht
    have FI := hidden6 (fire_2 F w K zs ks n a len cap I hb.kin hA ht)
    unfold GaveK at FI
    have ht2 : decide (I.map (fun l => (l.length : Int)) = insS 2 zs) = true := ht
    rw [ht2] at TK
    clear kA ht ht2 k0 hA hb k2 k3 k4
    cases hg : giveS 2 zs ks I with
    | none =>
      rw [hg] at FI
      simp only at FI
      have GV := hidden6 hg
      clear hg
      go_enter Try.func18, Try.ntmps18
      go_wp2_with (first | (go_at_call 72; (with_reducible refine FI.out.mono ?_); rintro e w1 ⟨⟨v, rfl⟩, hK, b1⟩) | (go_at_call 65; (with_reducible refine TK.out.mono ?_); rintro e v1 ⟨rfl, rfl⟩) | (go_at_call 29; (with_reducible refine NO.out.mono ?_); rintro e v1 ⟨rfl, rfl⟩))
      go_ret2
      exact end_fail HT.out GV.out (HB.out.same hK b1) b1
    | some p =>
      rw [hg] at FI
      obtain ⟨O, ks'⟩ := p
      simp only at FI
      have GV := hidden6 hg
      clear hg
      go_enter Try.func18, Try.ntmps18
      go_wp2_with (first | (go_at_call 61; (with_reducible refine (count_any K n w1 hK.cells.2.1 hK.cells.2.2.1 hn).mono ?_); rintro e w2 ⟨rfl, rfl⟩) | (go_at_call 72; (with_reducible refine FI.out.mono ?_); rintro e w1 ⟨x, c, A, C, F', rfl, hO, hK, hF, hFF, b1⟩; have y0 := (World.cell?_of_block (a := ⟨B, 0, none⟩) (b1.block B HB.out.blk.lt HB.out.ne)).trans y0) | (go_at_call 65; (with_reducible refine TK.out.mono ?_); rintro e v1 ⟨rfl, rfl⟩) | (go_at_call 29; (with_reducible refine NO.out.mono ?_); rintro e v1 ⟨rfl, rfl⟩))
      go_ret2
      refine end_ok (C := C) HT.out GV.out ?_ ?_ hF (b1.trans (But.set _ _ _ _))
      · have hKl := HB.out.kin.mem
        have := hKl.2 K hKl.1
        exact hO.keep (fun k h1 h2 => Below.heap_setCell _ _ _ _ (by simp only; omega)) (by simp)
      · exact HB.out.count hK (fun k h => hFF k h) b1 _ (by first | rfl | simp)
  · have HT := hidden6 ht
    have ht2 : decide (I.map (fun l => (l.length : Int)) = insS 2 zs) = false := by
      unfold takesS at ht
      simpa using ht
    rw [ht2] at TK
    clear kA ht ht2 k0 hA hb k2 k3 k4
    go_enter Try.func18, Try.ntmps18
    go_wp2_with (first | (go_at_call 65; (with_reducible refine TK.out.mono ?_); rintro e v1 ⟨rfl, rfl⟩) | (go_at_call 29; (with_reducible refine NO.out.mono ?_); rintro e v1 ⟨rfl, rfl⟩))
    go_ret2
    exact end_arg HT.out HB.out
set_option maxRecDepth 100000 in
theorem bfired_2 (F : Nat → Prop) (w : World) (B K : Nat) (zs ks : List Int) (n : Nat) (hb : Bod F w B K 2 zs ks n) : Calls Try.prog 19 #[.pointer (some ⟨B, 0, none⟩)] w fun e w' => e = .returned (.int .i64 (n : Int)) ∧ w' = w := by
  have y0 : w.cell? ⟨B, 0, none⟩ = some (.iface 71 (.pointer (some ⟨K, 0, none⟩))) := hb.blk.cell (k := 0) rfl
  have NO := hidden6 (none_no B _ _ w y0)
  have TI := hidden6 (timesK_any K n w hb.kin.cells.2.1)
  clear hb
  go_enter Try.func19, Try.ntmps19
  go_wp2_with (first | (go_at_call 66; (with_reducible refine TI.out.mono ?_); rintro e v1 ⟨rfl, rfl⟩) | (go_at_call 29; (with_reducible refine NO.out.mono ?_); rintro e v1 ⟨rfl, rfl⟩))
  go_ret
  exact ⟨rfl, rfl⟩
set_option maxRecDepth 100000 in
theorem bstate_2 (F : Nat → Prop) (w : World) (B K : Nat) (zs ks : List Int) (n : Nat) (hb : Bod F w B K 2 zs ks n) : Calls Try.prog 20 #[.pointer (some ⟨B, 0, none⟩)] w (RowEnd w ks) := by
  have y0 : w.cell? ⟨B, 0, none⟩ = some (.iface 71 (.pointer (some ⟨K, 0, none⟩))) := hb.blk.cell (k := 0) rfl
  have NO := hidden6 (none_no B _ _ w y0)
  obtain ⟨a1, a2, a3, a4, c1, c2, c3, c4, h⟩ := hb.kin
  have e0 : ks = [] := h.keep.2.2.2 (by decide) (by decide) (by decide)
  have KE := hidden6 (keeps_none (.pointer (some ⟨K, 0, none⟩)) w)
  subst e0
  clear hb h
  go_enter Try.func20, Try.ntmps20
  go_wp2_with (first | (go_at_call 73; (with_reducible refine KE.out.mono ?_); rintro e w1 ⟨rfl, rfl⟩) | (go_at_call 29; (with_reducible refine NO.out.mono ?_); rintro e v1 ⟨rfl, rfl⟩))
  go_ret
  exact ⟨none, 0, rfl, CapR.nil _ _, Below.refl _ _⟩
set_option maxRecDepth 100000 in
set_option maxHeartbeats 2000000 in
theorem bfire_3 (F : Nat → Prop) (w : World) (B K : Nat) (zs ks : List Int) (n : Nat) (a : Option Addr) (len cap : Nat) (I : List (List Int)) (hb : Bod F w B K 3 zs ks n) (hA : ArgL w a len I) (hn : n < 4611686018427387904) :
    Calls Try.prog 18 #[.pointer (some ⟨B, 0, none⟩), .slice a len cap] w (FireEnd F w B K 3 zs ks n I) := by
  obtain ⟨⟨a1, c1, k0, kA⟩, k2, k3, k4⟩ := hb.kin.cells
  have y0 : w.cell? ⟨B, 0, none⟩ = some (.iface 74 (.pointer (some ⟨K, 0, none⟩))) := hb.blk.cell (k := 0) rfl
  have NO := hidden6 (none_no B _ _ w y0)
  have TK := hidden6 (takes_any K w a1 c1 (insS 3 zs) a len cap I k0 kA k4 hA.size hA.lies)
  have HB := hidden6 hb
  by_cases ht : takesS 3 zs I = true
  · have HT := hidden6 ht
    have FI := hidden6 (fire_3 F w K zs ks n a len cap I hb.kin hA ht)
    unfold GaveK at FI
    have ht2 : decide (I.map (fun l => (l.length : Int)) = insS 3 zs) = true := ht
    rw [ht2] at TK
    clear kA ht ht2 k0 hA hb k2 k3 k4
    cases hg : giveS 3 zs ks I with
    | none =>
      rw [hg] at FI
      simp only at FI
      have GV := hidden6 hg
      clear hg
      go_enter Try.func18, Try.ntmps18
      go_wp2_with (first | (go_at_call 74; (with_reducible refine FI.out.mono ?_); rintro e w1 ⟨⟨v, rfl⟩, hK, b1⟩) | (go_at_call 65; (with_reducible refine TK.out.mono ?_); rintro e v1 ⟨rfl, rfl⟩) | (go_at_call 29; (with_reducible refine NO.out.mono ?_); rintro e v1 ⟨rfl, rfl⟩))
      go_ret2
      exact end_fail HT.out GV.out (HB.out.same hK b1) b1
    | some p =>
      rw [hg] at FI
      obtain ⟨O, ks'⟩ := p
      simp only at FI
      have GV := hidden6 hg
      clear hg
      go_enter Try.func18, Try.ntmps18
      go_wp2_with (first | (go_at_call 61; (with_reducible refine (count_any K n w1 hK.cells.2.1 hK.cells.2.2.1 hn).mono ?_); rintro e w2 ⟨rfl, rfl⟩) | (go_at_call 74; (with_reducible refine FI.out.mono ?_); rintro e w1 ⟨x, c, A, C, F', rfl, hO, hK, hF, hFF, b1⟩; have y0 := (World.cell?_of_block (a := ⟨B, 0, none⟩) (b1.block B HB.out.blk.lt HB.out.ne)).trans y0) | (go_at_call 65; (with_reducible refine TK.out.mono ?_); rintro e v1 ⟨rfl, rfl⟩) | (go_at_call 29; (with_reducible refine NO.out.mono ?_); rintro e v1 ⟨rfl, rfl⟩))
      go_ret2
      refine end_ok (C := C) HT.out GV.out ?_ ?_ hF (b1.trans (But.set _ _ _ _))
      · have hKl := HB.out.kin.mem
        have := hKl.2 K hKl.1
        exact hO.keep (fun k h1 h2 => Below.heap_setCell _ _ _ _ (by simp only; omega)) (by simp)
      · exact HB.out.count hK (fun k h => hFF k h) b1 _ (by first | rfl | simp)
  · have HT := hidden6 ht
    have ht2 : decide (I.map (fun l => (l.length : Int)) = insS 3 zs) = false := by
      unfold takesS at ht
      simpa using ht
    rw [ht2] at TK
    clear kA ht ht2 k0 hA hb k2 k3 k4
    go_enter Try.func18, Try.ntmps18
    go_wp2_with (first | (go_at_call 65; (with_reducible refine TK.out.mono ?_); rintro e v1 ⟨rfl, rfl⟩) | (go_at_call 29; (with_reducible refine NO.out.mono ?_); rintro e v1 ⟨rfl, rfl⟩))
    go_ret2
    exact end_arg HT.out HB.out
set_option maxRecDepth 100000 in
theorem bfired_3 (F : Nat → Prop) (w : World) (B K : Nat) (zs ks : List Int) (n : Nat) (hb : Bod F w B K 3 zs ks n) : Calls Try.prog 19 #[.pointer (some ⟨B, 0, none⟩)] w fun e w' => e = .returned (.int .i64 (n : Int)) ∧ w' = w := by
  have y0 : w.cell? ⟨B, 0, none⟩ = some (.iface 74 (.pointer (some ⟨K, 0, none⟩))) := hb.blk.cell (k := 0) rfl
  have NO := hidden6 (none_no B _ _ w y0)
  have TI := hidden6 (timesK_any K n w hb.kin.cells.2.1)
  clear hb
  go_enter Try.func19, Try.ntmps19
  go_wp2_with (first | (go_at_call 66; (with_reducible refine TI.out.mono ?_); rintro e v1 ⟨rfl, rfl⟩) | (go_at_call 29; (with_reducible refine NO.out.mono ?_); rintro e v1 ⟨rfl, rfl⟩))
  go_ret
  exact ⟨rfl, rfl⟩
set_option maxRecDepth 100000 in
theorem bstate_3 (F : Nat → Prop) (w : World) (B K : Nat) (zs ks : List Int) (n : Nat) (hb : Bod F w B K 3 zs ks n) : Calls Try.prog 20 #[.pointer (some ⟨B, 0, none⟩)] w (RowEnd w ks) := by
  have y0 : w.cell? ⟨B, 0, none⟩ = some (.iface 74 (.pointer (some ⟨K, 0, none⟩))) := hb.blk.cell (k := 0) rfl
  have NO := hidden6 (none_no B _ _ w y0)
  obtain ⟨a1, a2, a3, a4, c1, c2, c3, c4, h⟩ := hb.kin
  have e0 : ks = [] := h.keep.2.2.2 (by decide) (by decide) (by decide)
  have KE := hidden6 (keeps_none (.pointer (some ⟨K, 0, none⟩)) w)
  subst e0
  clear hb h
  go_enter Try.func20, Try.ntmps20
  go_wp2_with (first | (go_at_call 73; (with_reducible refine KE.out.mono ?_); rintro e w1 ⟨rfl, rfl⟩) | (go_at_call 29; (with_reducible refine NO.out.mono ?_); rintro e v1 ⟨rfl, rfl⟩))
  go_ret
  exact ⟨none, 0, rfl, CapR.nil _ _, Below.refl _ _⟩
set_option maxRecDepth 100000 in
set_option maxHeartbeats 2000000 in
theorem fire_4 (F : Nat → Prop) (w : World) (K : Nat) (zs ks : List Int) (n : Nat) (a : Option Addr) (len cap : Nat) (I : List (List Int)) (hk : KinE F w K 4 zs ks n) (hA : ArgL w a len I) (ht : takesS 4 zs I = true) :
    Calls Try.prog 75 #[.pointer (some ⟨K, 0, none⟩), .slice a len cap] w (GaveK F w K 4 zs ks n I) := by
  have HK := hidden6 hk
  have S : Hid (∀ (x : Int) V, Calls Try.prog 68 #[.int .i64 x] V (SingleEnd V x)) := fun x V => single_any x V
  obtain ⟨a1, a2, a3, a4, c1, c2, c3, c4, h⟩ := hk
  obtain ⟨i0, hi, hz0, hz1, hz2⟩ := info_parts Try.info3
  have hok := (ok_two rfl h.ok).2
  obtain ⟨N, hN⟩ : ∃ N : Nat, nth zs 0 = (N : Int) := ⟨(nth zs 0).toNat, by omega⟩
  obtain ⟨M, hM⟩ : ∃ M : Nat, nth zs 1 = (M : Int) := ⟨(nth zs 1).toNat, by omega⟩
  rw [hN, hM] at hok
  have hl : I.length = len := hA.size
  have hlen : len = N := by
    have h1 := takes_len ht
    have h2 : (insS 4 zs).length = N := by show (List.replicate (nth zs 0).toNat (nth zs 1)).length = N; rw [hN]; simp
    omega
  subst hlen
  have MM : Hid (∀ k, k < len → (nthL I k).length = M) := fun k hk => by
    have h1 := takes_nth ht (k := k) (by omega)
    have h2 : nth (insS 4 zs) k = (M : Int) := by show nth (List.replicate (nth zs 0).toNat (nth zs 1)) k = _; rw [nth_rep (by rw [hN]; simp; omega), hM]
    omega
  obtain ⟨Q, hQ⟩ : ∃ Q, len * M = Q := ⟨_, rfl⟩
  have hQI : (Q : Int) = nth zs 0 * nth zs 1 := by rw [hN, hM, ← hQ, Int.natCast_mul]
  have hQb : 1 ≤ Q ∧ Q ≤ 1024 := by
    have h1 := mul_bound hok.1 hok.2
    rw [← Int.natCast_mul, hQ] at h1
    omega
  have z1 : w.cell? ⟨K, 1, none⟩ = some (.slice a2 1 c2) := h.blk.cell (k := 1) rfl
  rcases h.outs.at with h0 | ⟨ob, oo, rfl, oc⟩
  · exact absurd h0 (by show [nth zs 0 * nth zs 1] ≠ []; simp)
  have z3 : w.cell? ⟨ob, oo, none⟩ = some (.int .i64 (Q : Int)) := by rw [hQI]; exact oc 0 (by show 0 < 1; decide)
  obtain ⟨L, hL⟩ : ∃ L, weaveS len M I = L := ⟨_, rfl⟩
  have GV : Hid (giveS 4 zs ks I = some ([L], ks)) := by
    show some ([weaveS (nth zs 0).toNat (nth zs 1).toNat I], ks) = _
    rw [hN, hM, ← hL]; rfl
  have hLl : L.length = Q := by rw [← hL, weave_len, hQ]
  have HLN : Hid (∀ k, k < Q → nth L k = nth (nthL I (k % len)) (k / len)) := fun k hk => by
    rw [← hL]; unfold weaveS; rw [nth_map (by omega)]
  have HI := hidden6 hA
  have DV : Hid (∀ k, k < Q → k % len < len ∧ k / len < M) := fun k hk => ⟨Nat.mod_lt _ (by omega), by rw [Nat.div_lt_iff_lt_mul (by omega), Nat.mul_comm, hQ]; exact hk⟩
  have hl1 : 1 ≤ len := by omega
  clear hA ht h oc hok hQI hL hM
  go_enter Try.func75, Try.ntmps75
  go_wp2_with (at_make; refine wpList_make_full _ rfl _ _ 22 rfl w.heap.size 3 i0 (.int .i64 0) 1 Try.underlying22 hi hz0 hz1 _ _ _ _ Q rfl rfl rfl rfl (by rw [hz2]; omega) (by unfold maxLen; omega) (Nat.le_refl _) ?_; intro w0 hown0 hgrow0; have B0 := hidden6 ((Below.refl w.heap.size w).grown hgrow0 (Nat.le_refl _) (fun k h => by cases h)); have C0 := hidden6 (made_zero hown0); clear hown0 hgrow0)
  go_loopg [18] Q (fun gk v wr => ∃ k : Nat, k ≤ Q ∧ gk = Q - k ∧ v = .int .i64 (k : Int) ∧ CapR w.heap.size wr (some ⟨w.heap.size, 0, none⟩) Q (L.take k ++ List.replicate (Q - k) 0) ∧ Below w.heap.size w wr)
  case atStart => exact ⟨0, Nat.zero_le _, rfl, rfl, by simpa using C0.out, B0.out⟩
  case round =>
    clear C0 B0
    obtain ⟨k, hk, rfl, rfl, hC, hB⟩ := hrel
    by_cases hlt : k < Q
    · have hki : (k : Int) < (Q : Int) := by omega
      have es : List.replicate (Q - k) (0 : Int) = 0 :: List.replicate (Q - (k + 1)) 0 := by
        rw [show Q - k = (Q - (k + 1)) + 1 by omega, List.replicate_succ]
      rw [es] at hC
      have hlk : (L.take k).length = k := by rw [List.length_take]; omega
      have dv := DV.out k hlt
      obtain ⟨b, off, xb, xo, c, rfl, y0, y1⟩ := tok_cell (HI.out.below hB).lies (i := k % len) (j := k / len) (by omega) (by rw [MM.out _ dv.1]; exact dv.2)
      rw [MM.out _ dv.1] at y0
      rw [← HLN.out k hlt] at y1
      obtain ⟨m, hm⟩ : ∃ m, M = m := ⟨_, rfl⟩
      rw [hm] at y0 dv
      have hrem : (k : Int).tmod (len : Int) = ((k % len : Nat) : Int) := rfl
      have hquo : (k : Int).tdiv (len : Int) = ((k / len : Nat) : Int) := rfl
      obtain ⟨r, hr⟩ : ∃ r, k % len = r := ⟨_, rfl⟩
      obtain ⟨uq, hu⟩ : ∃ uq, k / len = uq := ⟨_, rfl⟩
      have hku : uq ≤ k := by rw [← hu]; exact Nat.div_le_self _ _
      rw [hr] at hrem y0 dv
      rw [hu] at hquo y1 dv
      have hm1 : (r : Int) < (len : Int) := by omega
      have hm2 : (uq : Int) < (m : Int) := by omega
      have hwq : IntKind.i64.wrap (uq : Int) = (uq : Int) := by rw [IntKind.wrap_i64]; omega
      have hz : ¬ len = 0 := by omega
      have HC1 := hidden6 hC
      have HB := hidden6 hB
      have HLK := hidden6 hlk
      have HTN := hidden6 (take_nth (L := L) (k := k) (by omega))
      clear hC hB es hlk dv hr hu
      generalize nth L k = y at *
      go_wp2
      refine wp_region_said 15 (fun i u v => match i with
          | 0 => v = .slice (some ⟨w.heap.size, 0, none⟩) Q Q
          | 1 => v = .int .i64 (k : Int)
          | 2 => v = .slice (some ⟨b, off, none⟩) len cap
          | 3 => v = .int .i64 (k : Int)
          | 4 => v = .slice (some ⟨b, off, none⟩) len cap
          | 5 => v = .int .i64 (len : Int)
          | 6 => v = .int .i64 (r : Int)
          | 7 => v = .pointer (some ⟨b, off + r, none⟩)
          | 8 => v = .slice (some ⟨xb, xo, none⟩) m c
          | 9 => v = .int .i64 (k : Int)
          | 10 => v = .slice (some ⟨b, off, none⟩) len cap
          | 11 => v = .int .i64 (len : Int)
          | 12 => v = .int .i64 (uq : Int)
          | 13 => v = .pointer (some ⟨xb, xo + uq, none⟩)
          | 14 => v = .int .i64 y
          | _ => True) (by kernel_rfl) (by kernel_rfl) (by kernel_rfl) (by kernel_rfl) ?_ ?_ ?_
      · intro i w v w' h hb
        match i, h with
        | 0, h => exact h
        | 1, h => exact h
        | 2, h => exact h
        | 3, h => exact h
        | 4, h => exact h
        | 5, h => exact h
        | 6, h => exact h
        | 7, h => exact h
        | 8, h => exact h
        | 9, h => exact h
        | 10, h => exact h
        | 11, h => exact h
        | 12, h => exact h
        | 13, h => exact h
        | 14, h => exact h
        | _ + 15, _ => trivial
      · intro i o ρ w' hi ho hb hc hf hfr hdep
        have k0 := cell_keep6 hb y0
        have k1 := cell_keep6 hb y1
        match i, hi with
        | 0, _ =>
          simp only [gTA, gCZ, gSI] at ho
          subst ho
          have ts : ρ (.tmp 6) = .slice (some ⟨w.heap.size, 0, none⟩) Q Q := hfr 6 (by kernel_rfl)
          simp [go_sem, ts]
          exact ⟨Below.refl _ _, rfl⟩
        | 1, _ =>
          simp only [gTA, gCZ, gCS, gSI] at ho
          subst ho
          have ts : ρ (.tmp 7) = .int .i64 (k : Int) := hfr 7 (by kernel_rfl)
          simp [go_sem, ts]
          exact ⟨Below.refl _ _, rfl⟩
        | 2, _ =>
          simp only [gTA, gCZ, gCS, gSI] at ho
          subst ho
          have ts : ρ (.tmp 1) = .slice (some ⟨b, off, none⟩) len cap := hfr 1 (by kernel_rfl)
          simp [go_sem, ts]
          exact ⟨Below.refl _ _, rfl⟩
        | 3, _ =>
          simp only [gTA, gCZ, gCS, gSI] at ho
          subst ho
          have ts : ρ (.tmp 7) = .int .i64 (k : Int) := hfr 7 (by kernel_rfl)
          simp [go_sem, ts]
          exact ⟨Below.refl _ _, rfl⟩
        | 4, _ =>
          simp only [gTA, gCZ, gCS, gSI] at ho
          subst ho
          have ts : ρ (.tmp 1) = .slice (some ⟨b, off, none⟩) len cap := hfr 1 (by kernel_rfl)
          simp [go_sem, ts]
          exact ⟨Below.refl _ _, rfl⟩
        | 5, _ =>
          simp only [gTA, gCZ, gCS, gSI] at ho
          subst ho
          have t0 : ρ (.tmp 25) = .slice (some ⟨b, off, none⟩) len cap := hdep 4 25 (by kernel_rfl) (by kernel_rfl)
          simp [go_sem, t0]
          exact ⟨Below.refl _ _, rfl⟩
        | 6, _ =>
          simp only [gTA, gCZ, gCS, gSI] at ho
          subst ho
          have t0 : ρ (.tmp 24) = .int .i64 (k : Int) := hdep 3 24 (by kernel_rfl) (by kernel_rfl)
          have t1 : ρ (.tmp 26) = .int .i64 (len : Int) := hdep 5 26 (by kernel_rfl) (by kernel_rfl)
          simp [go_sem, t0, t1, hz, hrem]
          exact ⟨Below.refl _ _, rfl⟩
        | 7, _ =>
          simp only [gTA, gCZ, gCS, gSI] at ho
          subst ho
          have t0 : ρ (.tmp 23) = .slice (some ⟨b, off, none⟩) len cap := hdep 2 23 (by kernel_rfl) (by kernel_rfl)
          have t1 : ρ (.tmp 27) = .int .i64 (r : Int) := hdep 6 27 (by kernel_rfl) (by kernel_rfl)
          simp [go_sem, t0, t1, hm1]
          exact ⟨Below.refl _ _, rfl⟩
        | 8, _ =>
          simp only [gTA, gCZ, gCS, gSI] at ho
          subst ho
          have ts : ρ (.tmp 28) = .pointer (some ⟨b, off + r, none⟩) := hdep 7 28 (by kernel_rfl) (by kernel_rfl)
          simp [go_sem, ts, k0]
          exact ⟨Below.refl _ _, rfl⟩
        | 9, _ =>
          simp only [gTA, gCZ, gCS, gSI] at ho
          subst ho
          have ts : ρ (.tmp 7) = .int .i64 (k : Int) := hfr 7 (by kernel_rfl)
          simp [go_sem, ts]
          exact ⟨Below.refl _ _, rfl⟩
        | 10, _ =>
          simp only [gTA, gCZ, gCS, gSI] at ho
          subst ho
          have ts : ρ (.tmp 1) = .slice (some ⟨b, off, none⟩) len cap := hfr 1 (by kernel_rfl)
          simp [go_sem, ts]
          exact ⟨Below.refl _ _, rfl⟩
        | 11, _ =>
          simp only [gTA, gCZ, gCS, gSI] at ho
          subst ho
          have t0 : ρ (.tmp 31) = .slice (some ⟨b, off, none⟩) len cap := hdep 10 31 (by kernel_rfl) (by kernel_rfl)
          simp [go_sem, t0]
          exact ⟨Below.refl _ _, rfl⟩
        | 12, _ =>
          simp only [gTA, gCZ, gCS, gSI] at ho
          subst ho
          have t0 : ρ (.tmp 30) = .int .i64 (k : Int) := hdep 9 30 (by kernel_rfl) (by kernel_rfl)
          have t1 : ρ (.tmp 32) = .int .i64 (len : Int) := hdep 11 32 (by kernel_rfl) (by kernel_rfl)
          simp [go_sem, t0, t1, hz, hquo, hwq]
          exact ⟨Below.refl _ _, rfl⟩
        | 13, _ =>
          simp only [gTA, gCZ, gCS, gSI] at ho
          subst ho
          have t0 : ρ (.tmp 29) = .slice (some ⟨xb, xo, none⟩) m c := hdep 8 29 (by kernel_rfl) (by kernel_rfl)
          have t1 : ρ (.tmp 33) = .int .i64 (uq : Int) := hdep 12 33 (by kernel_rfl) (by kernel_rfl)
          simp [go_sem, t0, t1, hm2]
          exact ⟨Below.refl _ _, rfl⟩
        | 14, _ =>
          simp only [gTA, gCZ, gCS, gSI] at ho
          subst ho
          have ts : ρ (.tmp 34) = .pointer (some ⟨xb, xo + uq, none⟩) := hdep 13 34 (by kernel_rfl) (by kernel_rfl)
          simp [go_sem, ts, k1]
          exact ⟨Below.refl _ _, rfl⟩
      · intro V w9 q9 hS
        have e0 : V 0 = .slice (some ⟨w.heap.size, 0, none⟩) Q Q := hS 0 (by decide)
        have e1 : V 1 = .int .i64 (k : Int) := hS 1 (by decide)
        have e2 : V 2 = .slice (some ⟨b, off, none⟩) len cap := hS 2 (by decide)
        have e3 : V 3 = .int .i64 (k : Int) := hS 3 (by decide)
        have e4 : V 4 = .slice (some ⟨b, off, none⟩) len cap := hS 4 (by decide)
        have e5 : V 5 = .int .i64 (len : Int) := hS 5 (by decide)
        have e6 : V 6 = .int .i64 (r : Int) := hS 6 (by decide)
        have e7 : V 7 = .pointer (some ⟨b, off + r, none⟩) := hS 7 (by decide)
        have e8 : V 8 = .slice (some ⟨xb, xo, none⟩) m c := hS 8 (by decide)
        have e9 : V 9 = .int .i64 (k : Int) := hS 9 (by decide)
        have e10 : V 10 = .slice (some ⟨b, off, none⟩) len cap := hS 10 (by decide)
        have e11 : V 11 = .int .i64 (len : Int) := hS 11 (by decide)
        have e12 : V 12 = .int .i64 (uq : Int) := hS 12 (by decide)
        have e13 : V 13 = .pointer (some ⟨xb, xo + uq, none⟩) := hS 13 (by decide)
        have e14 : V 14 = .int .i64 y := hS 14 (by decide)
        simp only [List.drop_succ_cons, List.drop_zero, List.take_succ_cons, List.take_zero, puts, e0, e1, e2, e3, e4, e5, e6, e7, e8, e9, e10, e11, e12, e13, e14]
        clear hS e0 e1 e2 e3 e4 e5 e6 e7 e8 e9 e10 e11 e12 e13 e14 V
        have hC9 := HC1.out.later q9
        have hc := hC9.hd (k := k) HLK.out
        have hf := hC9.fz k
        have hC2 : Hid (CapR w.heap.size (w9.setCell ⟨w.heap.size, k, none⟩ (.int .i64 y)) (some ⟨w.heap.size, 0, none⟩) Q (L.take (k + 1) ++ List.replicate (Q - (k + 1)) 0)) := by
          have h1 := hC9.set (k := k) y HLK.out
          rw [HTN.out, List.append_assoc]
          exact h1
        have HB2 := hidden6 ((HB.out.trans (q9.mono HB.out.size)).setCell (p := ⟨w.heap.size, k, none⟩) (Nat.le_refl _) (.int .i64 y))
        clear hC9
        go_wp2
        go_roundg (Q - (k + 1))
        case measure => omega
        case rel => exact ⟨k + 1, by omega, rfl, by go_num, hC2.out, HB2.out⟩
    · have ek : k = Q := by omega
      subst ek
      have hki : ¬ (k : Int) < (k : Int) := by omega
      rw [Nat.sub_self, List.replicate_zero, List.append_nil, List.take_of_length_le (by omega)] at hC
      have HC := hidden6 hC
      have HB := hidden6 hB
      clear hC hB
      go_wp2
      go_ret2
      have h3 := table_one _ _ _ _ _ HB.out.size HC.out
      rw [hLl] at h3
      exact gave_plain GV.out HK.out h3 (HB.out.alloc HB.out.size _)
set_option maxRecDepth 100000 in
set_option maxHeartbeats 2000000 in
theorem bfire_4 (F : Nat → Prop) (w : World) (B K : Nat) (zs ks : List Int) (n : Nat) (a : Option Addr) (len cap : Nat) (I : List (List Int)) (hb : Bod F w B K 4 zs ks n) (hA : ArgL w a len I) (hn : n < 4611686018427387904) :
    Calls Try.prog 18 #[.pointer (some ⟨B, 0, none⟩), .slice a len cap] w (FireEnd F w B K 4 zs ks n I) := by
  obtain ⟨⟨a1, c1, k0, kA⟩, k2, k3, k4⟩ := hb.kin.cells
  have y0 : w.cell? ⟨B, 0, none⟩ = some (.iface 76 (.pointer (some ⟨K, 0, none⟩))) := hb.blk.cell (k := 0) rfl
  have NO := hidden6 (none_no B _ _ w y0)
  have TK := hidden6 (takes_any K w a1 c1 (insS 4 zs) a len cap I k0 kA k4 hA.size hA.lies)
  have HB := hidden6 hb
  by_cases ht : takesS 4 zs I = true
  · have HT := hidden6 ht
    have FI := hidden6 (fire_4 F w K zs ks n a len cap I hb.kin hA ht)
    unfold GaveK at FI
    have ht2 : decide (I.map (fun l => (l.length : Int)) = insS 4 zs) = true := ht
    rw [ht2] at TK
    clear kA ht ht2 k0 hA hb k2 k3 k4
    cases hg : giveS 4 zs ks I with
    | none =>
      rw [hg] at FI
      simp only at FI
      have GV := hidden6 hg
      clear hg
      go_enter Try.func18, Try.ntmps18
      go_wp2_with (first | (go_at_call 75; (with_reducible refine FI.out.mono ?_); rintro e w1 ⟨⟨v, rfl⟩, hK, b1⟩) | (go_at_call 65; (with_reducible refine TK.out.mono ?_); rintro e v1 ⟨rfl, rfl⟩) | (go_at_call 29; (with_reducible refine NO.out.mono ?_); rintro e v1 ⟨rfl, rfl⟩))
      go_ret2
      exact end_fail HT.out GV.out (HB.out.same hK b1) b1
    | some p =>
      rw [hg] at FI
      obtain ⟨O, ks'⟩ := p
      simp only at FI
      have GV := hidden6 hg
      clear hg
      go_enter Try.func18, Try.ntmps18
      go_wp2_with (first | (go_at_call 61; (with_reducible refine (count_any K n w1 hK.cells.2.1 hK.cells.2.2.1 hn).mono ?_); rintro e w2 ⟨rfl, rfl⟩) | (go_at_call 75; (with_reducible refine FI.out.mono ?_); rintro e w1 ⟨x, c, A, C, F', rfl, hO, hK, hF, hFF, b1⟩; have y0 := (World.cell?_of_block (a := ⟨B, 0, none⟩) (b1.block B HB.out.blk.lt HB.out.ne)).trans y0) | (go_at_call 65; (with_reducible refine TK.out.mono ?_); rintro e v1 ⟨rfl, rfl⟩) | (go_at_call 29; (with_reducible refine NO.out.mono ?_); rintro e v1 ⟨rfl, rfl⟩))
      go_ret2
      refine end_ok (C := C) HT.out GV.out ?_ ?_ hF (b1.trans (But.set _ _ _ _))
      · have hKl := HB.out.kin.mem
        have := hKl.2 K hKl.1
        exact hO.keep (fun k h1 h2 => Below.heap_setCell _ _ _ _ (by simp only; omega)) (by simp)
      · exact HB.out.count hK (fun k h => hFF k h) b1 _ (by first | rfl | simp)
  · have HT := hidden6 ht
    have ht2 : decide (I.map (fun l => (l.length : Int)) = insS 4 zs) = false := by
      unfold takesS at ht
      simpa using ht
    rw [ht2] at TK
    clear kA ht ht2 k0 hA hb k2 k3 k4
    go_enter Try.func18, Try.ntmps18
    go_wp2_with (first | (go_at_call 65; (with_reducible refine TK.out.mono ?_); rintro e v1 ⟨rfl, rfl⟩) | (go_at_call 29; (with_reducible refine NO.out.mono ?_); rintro e v1 ⟨rfl, rfl⟩))
    go_ret2
    exact end_arg HT.out HB.out
set_option maxRecDepth 100000 in
theorem bfired_4 (F : Nat → Prop) (w : World) (B K : Nat) (zs ks : List Int) (n : Nat) (hb : Bod F w B K 4 zs ks n) : Calls Try.prog 19 #[.pointer (some ⟨B, 0, none⟩)] w fun e w' => e = .returned (.int .i64 (n : Int)) ∧ w' = w := by
  have y0 : w.cell? ⟨B, 0, none⟩ = some (.iface 76 (.pointer (some ⟨K, 0, none⟩))) := hb.blk.cell (k := 0) rfl
  have NO := hidden6 (none_no B _ _ w y0)
  have TI := hidden6 (timesK_any K n w hb.kin.cells.2.1)
  clear hb
  go_enter Try.func19, Try.ntmps19
  go_wp2_with (first | (go_at_call 66; (with_reducible refine TI.out.mono ?_); rintro e v1 ⟨rfl, rfl⟩) | (go_at_call 29; (with_reducible refine NO.out.mono ?_); rintro e v1 ⟨rfl, rfl⟩))
  go_ret
  exact ⟨rfl, rfl⟩
set_option maxRecDepth 100000 in
theorem bstate_4 (F : Nat → Prop) (w : World) (B K : Nat) (zs ks : List Int) (n : Nat) (hb : Bod F w B K 4 zs ks n) : Calls Try.prog 20 #[.pointer (some ⟨B, 0, none⟩)] w (RowEnd w ks) := by
  have y0 : w.cell? ⟨B, 0, none⟩ = some (.iface 76 (.pointer (some ⟨K, 0, none⟩))) := hb.blk.cell (k := 0) rfl
  have NO := hidden6 (none_no B _ _ w y0)
  obtain ⟨a1, a2, a3, a4, c1, c2, c3, c4, h⟩ := hb.kin
  have e0 : ks = [] := h.keep.2.2.2 (by decide) (by decide) (by decide)
  have KE := hidden6 (keeps_none (.pointer (some ⟨K, 0, none⟩)) w)
  subst e0
  clear hb h
  go_enter Try.func20, Try.ntmps20
  go_wp2_with (first | (go_at_call 73; (with_reducible refine KE.out.mono ?_); rintro e w1 ⟨rfl, rfl⟩) | (go_at_call 29; (with_reducible refine NO.out.mono ?_); rintro e v1 ⟨rfl, rfl⟩))
  go_ret
  exact ⟨none, 0, rfl, CapR.nil _ _, Below.refl _ _⟩
set_option maxRecDepth 100000 in
set_option maxHeartbeats 2000000 in
theorem bfire_5 (F : Nat → Prop) (w : World) (B K : Nat) (zs ks : List Int) (n : Nat) (a : Option Addr) (len cap : Nat) (I : List (List Int)) (hb : Bod F w B K 5 zs ks n) (hA : ArgL w a len I) (hn : n < 4611686018427387904) :
    Calls Try.prog 18 #[.pointer (some ⟨B, 0, none⟩), .slice a len cap] w (FireEnd F w B K 5 zs ks n I) := by
  obtain ⟨⟨a1, c1, k0, kA⟩, k2, k3, k4⟩ := hb.kin.cells
  have y0 : w.cell? ⟨B, 0, none⟩ = some (.iface 78 (.pointer (some ⟨K, 0, none⟩))) := hb.blk.cell (k := 0) rfl
  have NO := hidden6 (none_no B _ _ w y0)
  have TK := hidden6 (takes_any K w a1 c1 (insS 5 zs) a len cap I k0 kA k4 hA.size hA.lies)
  have HB := hidden6 hb
  by_cases ht : takesS 5 zs I = true
  · have HT := hidden6 ht
    have FI := hidden6 (fire_5 F w K zs ks n a len cap I hb.kin hA ht)
    unfold GaveK at FI
    have ht2 : decide (I.map (fun l => (l.length : Int)) = insS 5 zs) = true := ht
    rw [ht2] at TK
    clear kA ht ht2 k0 hA hb k2 k3 k4
    cases hg : giveS 5 zs ks I with
    | none =>
      rw [hg] at FI
      simp only at FI
      have GV := hidden6 hg
      clear hg
      go_enter Try.func18, Try.ntmps18
      go_wp2_with (first | (go_at_call 76; (with_reducible refine FI.out.mono ?_); rintro e w1 ⟨⟨v, rfl⟩, hK, b1⟩) | (go_at_call 65; (with_reducible refine TK.out.mono ?_); rintro e v1 ⟨rfl, rfl⟩) | (go_at_call 29; (with_reducible refine NO.out.mono ?_); rintro e v1 ⟨rfl, rfl⟩))
      go_ret2
      exact end_fail HT.out GV.out (HB.out.same hK b1) b1
    | some p =>
      rw [hg] at FI
      obtain ⟨O, ks'⟩ := p
      simp only at FI
      have GV := hidden6 hg
      clear hg
      go_enter Try.func18, Try.ntmps18
      go_wp2_with (first | (go_at_call 61; (with_reducible refine (count_any K n w1 hK.cells.2.1 hK.cells.2.2.1 hn).mono ?_); rintro e w2 ⟨rfl, rfl⟩) | (go_at_call 76; (with_reducible refine FI.out.mono ?_); rintro e w1 ⟨x, c, A, C, F', rfl, hO, hK, hF, hFF, b1⟩; have y0 := (World.cell?_of_block (a := ⟨B, 0, none⟩) (b1.block B HB.out.blk.lt HB.out.ne)).trans y0) | (go_at_call 65; (with_reducible refine TK.out.mono ?_); rintro e v1 ⟨rfl, rfl⟩) | (go_at_call 29; (with_reducible refine NO.out.mono ?_); rintro e v1 ⟨rfl, rfl⟩))
      go_ret2
      refine end_ok (C := C) HT.out GV.out ?_ ?_ hF (b1.trans (But.set _ _ _ _))
      · have hKl := HB.out.kin.mem
        have := hKl.2 K hKl.1
        exact hO.keep (fun k h1 h2 => Below.heap_setCell _ _ _ _ (by simp only; omega)) (by simp)
      · exact HB.out.count hK (fun k h => hFF k h) b1 _ (by first | rfl | simp)
  · have HT := hidden6 ht
    have ht2 : decide (I.map (fun l => (l.length : Int)) = insS 5 zs) = false := by
      unfold takesS at ht
      simpa using ht
    rw [ht2] at TK
    clear kA ht ht2 k0 hA hb k2 k3 k4
    go_enter Try.func18, Try.ntmps18
    go_wp2_with (first | (go_at_call 65; (with_reducible refine TK.out.mono ?_); rintro e v1 ⟨rfl, rfl⟩) | (go_at_call 29; (with_reducible refine NO.out.mono ?_); rintro e v1 ⟨rfl, rfl⟩))
    go_ret2
    exact end_arg HT.out HB.out
set_option maxRecDepth 100000 in
theorem bfired_5 (F : Nat → Prop) (w : World) (B K : Nat) (zs ks : List Int) (n : Nat) (hb : Bod F w B K 5 zs ks n) : Calls Try.prog 19 #[.pointer (some ⟨B, 0, none⟩)] w fun e w' => e = .returned (.int .i64 (n : Int)) ∧ w' = w := by
  have y0 : w.cell? ⟨B, 0, none⟩ = some (.iface 78 (.pointer (some ⟨K, 0, none⟩))) := hb.blk.cell (k := 0) rfl
  have NO := hidden6 (none_no B _ _ w y0)
  have TI := hidden6 (timesK_any K n w hb.kin.cells.2.1)
  clear hb
  go_enter Try.func19, Try.ntmps19
  go_wp2_with (first | (go_at_call 66; (with_reducible refine TI.out.mono ?_); rintro e v1 ⟨rfl, rfl⟩) | (go_at_call 29; (with_reducible refine NO.out.mono ?_); rintro e v1 ⟨rfl, rfl⟩))
  go_ret
  exact ⟨rfl, rfl⟩
set_option maxRecDepth 100000 in
theorem bstate_5 (F : Nat → Prop) (w : World) (B K : Nat) (zs ks : List Int) (n : Nat) (hb : Bod F w B K 5 zs ks n) : Calls Try.prog 20 #[.pointer (some ⟨B, 0, none⟩)] w (RowEnd w ks) := by
  have y0 : w.cell? ⟨B, 0, none⟩ = some (.iface 78 (.pointer (some ⟨K, 0, none⟩))) := hb.blk.cell (k := 0) rfl
  have NO := hidden6 (none_no B _ _ w y0)
  obtain ⟨a1, a2, a3, a4, c1, c2, c3, c4, h⟩ := hb.kin
  have e0 : ks = [] := h.keep.2.2.2 (by decide) (by decide) (by decide)
  have KE := hidden6 (keeps_none (.pointer (some ⟨K, 0, none⟩)) w)
  subst e0
  clear hb h
  go_enter Try.func20, Try.ntmps20
  go_wp2_with (first | (go_at_call 73; (with_reducible refine KE.out.mono ?_); rintro e w1 ⟨rfl, rfl⟩) | (go_at_call 29; (with_reducible refine NO.out.mono ?_); rintro e v1 ⟨rfl, rfl⟩))
  go_ret
  exact ⟨none, 0, rfl, CapR.nil _ _, Below.refl _ _⟩
theorem quot_fits {x y : Int} (hx : -9223372036854775808 ≤ x ∧ x ≤ 9223372036854775807) (h0 : y ≠ 0) (h1 : y ≠ -1) : wrap64 (x.tdiv y) = x.tdiv y := by
  have h2 : -9223372036854775808 ≤ x.tdiv y ∧ x.tdiv y ≤ 9223372036854775807 := by
    by_cases e : y = 1
    · subst e; rw [Int.tdiv_one]; exact hx
    · have h3 : (x.tdiv y).natAbs = x.natAbs / y.natAbs := Int.natAbs_tdiv x y
      have h4 : x.natAbs / y.natAbs ≤ x.natAbs / 2 := Nat.div_le_div_left (by omega) (by decide)
      rw [← h3] at h4
      clear h3
      generalize x.tdiv y = d at h4 ⊢
      omega
  generalize x.tdiv y = d at h2 ⊢
  simp only [wrap64]
  omega
theorem second_tok {w : World} {zs : List Int} {a : Option Addr} {len : Nat} {I : List (List Int)} (hA : ArgL w a len I) (ht : takesS 7 zs I = true) :
    ∃ b off xb xo c yb yo d, a = some ⟨b, off, none⟩ ∧ len = 2 ∧ w.cell? ⟨b, off, none⟩ = some (.slice (some ⟨xb, xo, none⟩) 1 c) ∧ w.cell? ⟨xb, xo, none⟩ = some (.int .i64 (nth (nthL I 0) 0)) ∧ w.cell? ⟨b, off + 1, none⟩ = some (.slice (some ⟨yb, yo, none⟩) 1 d) ∧ w.cell? ⟨yb, yo, none⟩ = some (.int .i64 (nth (nthL I 1) 0)) := by
  have hl : I.length = 2 := takes_len ht
  have h0 : ((nthL I 0).length : Int) = 1 := takes_nth ht (k := 0) (by omega)
  have h1 : ((nthL I 1).length : Int) = 1 := takes_nth ht (k := 1) (by omega)
  have e0 : (nthL I 0).length = 1 := by omega
  have e1 : (nthL I 1).length = 1 := by omega
  obtain ⟨b, off, xb, xo, c, e, g1, g2⟩ := tok_cell hA.lies (i := 0) (j := 0) (by omega) (by omega)
  obtain ⟨b', off', yb, yo, d, e', g3, g4⟩ := tok_cell hA.lies (i := 1) (j := 0) (by omega) (by omega)
  rw [e] at e'
  cases e'
  rw [e0] at g1
  rw [e1] at g3
  exact ⟨b, off, xb, xo, c, yb, yo, d, e, by rw [← hA.size]; exact hl, g1, g2, g3, g4⟩
set_option maxRecDepth 100000 in
set_option maxHeartbeats 2000000 in
theorem fire_7 (F : Nat → Prop) (w : World) (K : Nat) (zs ks : List Int) (n : Nat) (a : Option Addr) (len cap : Nat) (I : List (List Int)) (hk : KinE F w K 7 zs ks n) (hA : ArgL w a len I) (ht : takesS 7 zs I = true) :
    Calls Try.prog 79 #[.pointer (some ⟨K, 0, none⟩), .slice a len cap] w (GaveK F w K 7 zs ks n I) := by
  have HK := hidden6 hk
  have S : Hid (∀ (x : Int) V, Calls Try.prog 68 #[.int .i64 x] V (SingleEnd V x)) := fun x V => single_any x V
  obtain ⟨a1, a2, a3, a4, c1, c2, c3, c4, h⟩ := hk
  obtain ⟨b, off, xb, xo, c, yb, yo, d, rfl, rfl, y0, y1, y2, y3⟩ := second_tok hA ht
  have hx := hA.fits 0 0
  have hy := hA.fits 1 0
  have G0 : giveS 7 zs ks I = if nth (nthL I 1) 0 = 0 ∨ (nth (nthL I 0) 0 = -9223372036854775808 ∧ nth (nthL I 1) 0 = -1) then none else some ([[(nth (nthL I 0) 0).tdiv (nth (nthL I 1) 0)]], ks) := rfl
  clear hA ht h
  generalize nth (nthL I 0) 0 = x at *
  generalize nth (nthL I 1) 0 = y at *
  by_cases e0 : y = 0
  · subst e0
    rw [if_pos (.inl rfl)] at G0
    have GV := hidden6 G0
    clear G0
    go_enter Try.func79, Try.ntmps79
    go_wp2
    go_quiet (fail)
    go_wp2
    go_ret2
    exact gave_none GV.out HK.out (bdrew (Below.refl _ _) nq)
  · have n0 : (y == 0) = false := by simpa using e0
    by_cases e1 : y = -1
    · subst e1
      have SU := hidden6 (fun V => sub_any 0 x V (by decide) hx)
      by_cases hf : fitB (0 - x) = true
      · have hv := fitV_yes (fitB_true.1 hf)
        rw [hv, hf] at SU
        have e2 : ¬ ((-1 : Int) = 0 ∨ (x = -9223372036854775808 ∧ (-1 : Int) = -1)) := by have := fitB_true.1 hf; omega
        rw [if_neg e2, show x.tdiv (-1) = 0 - x by rw [Int.tdiv_neg, Int.tdiv_one]; omega] at G0
        have GV := hidden6 G0
        clear G0 e2 hv hf
        generalize 0 - x = z at *
        go_enter Try.func79, Try.ntmps79
        go_wp2
        go_quiet (fail)
        go_wp2_with (first | (go_at_call 71; (with_reducible refine (SU.out _).mono ?_); rintro e w2 ⟨rfl, rfl⟩) | (go_at_call 68; (with_reducible refine (S.out z _).mono ?_); rintro e w1 ⟨g, A, C, rfl, hO, b1⟩))
        go_ret2
        exact gave_drew GV.out HK.out hO b1
      · have hf2 : fitB (0 - x) = false := by simpa using hf
        rw [hf2] at SU
        have e2 : (-1 : Int) = 0 ∨ (x = -9223372036854775808 ∧ (-1 : Int) = -1) := by have := fitB_false.1 hf2; omega
        rw [if_pos e2] at G0
        have GV := hidden6 G0
        clear G0 e2 hf hf2
        generalize fitV (0 - x) = z at *
        go_enter Try.func79, Try.ntmps79
        go_wp2
        go_quiet (fail)
        go_wp2_with (first | (go_at_call 71; (with_reducible refine (SU.out _).mono ?_); rintro e w2 ⟨rfl, rfl⟩) | (go_at_call 68; (with_reducible refine (S.out z _).mono ?_); rintro e w1 ⟨g, A, C, rfl, hO, b1⟩))
        go_ret2
        exact gave_none GV.out HK.out ((bdrew (Below.refl _ _) nq).trans (drew_below b1))
    · have n1 : (y == -1) = false := by simpa using e1
      have e2 : ¬ (y = 0 ∨ (x = -9223372036854775808 ∧ y = -1)) := by omega
      rw [if_neg e2] at G0
      have GV := hidden6 G0
      have QF := hidden6 (quot_fits hx e0 e1)
      clear G0 e2
      go_enter Try.func79, Try.ntmps79
      go_wp2
      go_quiet (fail)
      go_wp2_with (go_at_call 68; (with_reducible refine (S.out _ _).mono ?_); rintro e w1 ⟨g, A, C, rfl, hO, b1⟩)
      go_ret2
      rw [QF.out] at hO
      exact gave_drew GV.out HK.out hO b1
set_option maxRecDepth 100000 in
set_option maxHeartbeats 2000000 in
theorem bfire_7 (F : Nat → Prop) (w : World) (B K : Nat) (zs ks : List Int) (n : Nat) (a : Option Addr) (len cap : Nat) (I : List (List Int)) (hb : Bod F w B K 7 zs ks n) (hA : ArgL w a len I) (hn : n < 4611686018427387904) :
    Calls Try.prog 18 #[.pointer (some ⟨B, 0, none⟩), .slice a len cap] w (FireEnd F w B K 7 zs ks n I) := by
  obtain ⟨⟨a1, c1, k0, kA⟩, k2, k3, k4⟩ := hb.kin.cells
  have y0 : w.cell? ⟨B, 0, none⟩ = some (.iface 82 (.pointer (some ⟨K, 0, none⟩))) := hb.blk.cell (k := 0) rfl
  have NO := hidden6 (none_no B _ _ w y0)
  have TK := hidden6 (takes_any K w a1 c1 (insS 7 zs) a len cap I k0 kA k4 hA.size hA.lies)
  have HB := hidden6 hb
  by_cases ht : takesS 7 zs I = true
  · have HT := hidden6 ht
    have FI := hidden6 (fire_7 F w K zs ks n a len cap I hb.kin hA ht)
    unfold GaveK at FI
    have ht2 : decide (I.map (fun l => (l.length : Int)) = insS 7 zs) = true := ht
    rw [ht2] at TK
    clear kA ht ht2 k0 hA hb k2 k3 k4
    cases hg : giveS 7 zs ks I with
    | none =>
      rw [hg] at FI
      simp only at FI
      have GV := hidden6 hg
      clear hg
      go_enter Try.func18, Try.ntmps18
      go_wp2_with (first | (go_at_call 79; (with_reducible refine FI.out.mono ?_); rintro e w1 ⟨⟨v, rfl⟩, hK, b1⟩) | (go_at_call 65; (with_reducible refine TK.out.mono ?_); rintro e v1 ⟨rfl, rfl⟩) | (go_at_call 29; (with_reducible refine NO.out.mono ?_); rintro e v1 ⟨rfl, rfl⟩))
      go_ret2
      exact end_fail HT.out GV.out (HB.out.same hK b1) b1
    | some p =>
      rw [hg] at FI
      obtain ⟨O, ks'⟩ := p
      simp only at FI
      have GV := hidden6 hg
      clear hg
      go_enter Try.func18, Try.ntmps18
      go_wp2_with (first | (go_at_call 61; (with_reducible refine (count_any K n w1 hK.cells.2.1 hK.cells.2.2.1 hn).mono ?_); rintro e w2 ⟨rfl, rfl⟩) | (go_at_call 79; (with_reducible refine FI.out.mono ?_); rintro e w1 ⟨x, c, A, C, F', rfl, hO, hK, hF, hFF, b1⟩; have y0 := (World.cell?_of_block (a := ⟨B, 0, none⟩) (b1.block B HB.out.blk.lt HB.out.ne)).trans y0) | (go_at_call 65; (with_reducible refine TK.out.mono ?_); rintro e v1 ⟨rfl, rfl⟩) | (go_at_call 29; (with_reducible refine NO.out.mono ?_); rintro e v1 ⟨rfl, rfl⟩))
      go_ret2
      refine end_ok (C := C) HT.out GV.out ?_ ?_ hF (b1.trans (But.set _ _ _ _))
      · have hKl := HB.out.kin.mem
        have := hKl.2 K hKl.1
        exact hO.keep (fun k h1 h2 => Below.heap_setCell _ _ _ _ (by simp only; omega)) (by simp)
      · exact HB.out.count hK (fun k h => hFF k h) b1 _ (by first | rfl | simp)
  · have HT := hidden6 ht
    have ht2 : decide (I.map (fun l => (l.length : Int)) = insS 7 zs) = false := by
      unfold takesS at ht
      simpa using ht
    rw [ht2] at TK
    clear kA ht ht2 k0 hA hb k2 k3 k4
    go_enter Try.func18, Try.ntmps18
    go_wp2_with (first | (go_at_call 65; (with_reducible refine TK.out.mono ?_); rintro e v1 ⟨rfl, rfl⟩) | (go_at_call 29; (with_reducible refine NO.out.mono ?_); rintro e v1 ⟨rfl, rfl⟩))
    go_ret2
    exact end_arg HT.out HB.out
set_option maxRecDepth 100000 in
theorem bfired_7 (F : Nat → Prop) (w : World) (B K : Nat) (zs ks : List Int) (n : Nat) (hb : Bod F w B K 7 zs ks n) : Calls Try.prog 19 #[.pointer (some ⟨B, 0, none⟩)] w fun e w' => e = .returned (.int .i64 (n : Int)) ∧ w' = w := by
  have y0 : w.cell? ⟨B, 0, none⟩ = some (.iface 82 (.pointer (some ⟨K, 0, none⟩))) := hb.blk.cell (k := 0) rfl
  have NO := hidden6 (none_no B _ _ w y0)
  have TI := hidden6 (timesK_any K n w hb.kin.cells.2.1)
  clear hb
  go_enter Try.func19, Try.ntmps19
  go_wp2_with (first | (go_at_call 66; (with_reducible refine TI.out.mono ?_); rintro e v1 ⟨rfl, rfl⟩) | (go_at_call 29; (with_reducible refine NO.out.mono ?_); rintro e v1 ⟨rfl, rfl⟩))
  go_ret
  exact ⟨rfl, rfl⟩
set_option maxRecDepth 100000 in
theorem bstate_7 (F : Nat → Prop) (w : World) (B K : Nat) (zs ks : List Int) (n : Nat) (hb : Bod F w B K 7 zs ks n) : Calls Try.prog 20 #[.pointer (some ⟨B, 0, none⟩)] w (RowEnd w ks) := by
  have y0 : w.cell? ⟨B, 0, none⟩ = some (.iface 82 (.pointer (some ⟨K, 0, none⟩))) := hb.blk.cell (k := 0) rfl
  have NO := hidden6 (none_no B _ _ w y0)
  obtain ⟨a1, a2, a3, a4, c1, c2, c3, c4, h⟩ := hb.kin
  have e0 : ks = [] := h.keep.2.2.2 (by decide) (by decide) (by decide)
  have KE := hidden6 (keeps_none (.pointer (some ⟨K, 0, none⟩)) w)
  subst e0
  clear hb h
  go_enter Try.func20, Try.ntmps20
  go_wp2_with (first | (go_at_call 73; (with_reducible refine KE.out.mono ?_); rintro e w1 ⟨rfl, rfl⟩) | (go_at_call 29; (with_reducible refine NO.out.mono ?_); rintro e v1 ⟨rfl, rfl⟩))
  go_ret
  exact ⟨none, 0, rfl, CapR.nil _ _, Below.refl _ _⟩
theorem six_but6 {S : TypeId} {b : Nat} {w : World} {c0 c1 c2 c3 c4 c5 : Value} (hB : BlkA S b w #[c0, c1, c2, c3, c4, c5]) (v0 v1 v2 v3 v4 v5 : Value) :
    BlkA S b ((((((w.setCell ⟨b, 0, none⟩ v0).setCell ⟨b, 1, none⟩ v1).setCell ⟨b, 2, none⟩ v2).setCell ⟨b, 3, none⟩ v3).setCell ⟨b, 4, none⟩ v4).setCell ⟨b, 5, none⟩ v5) #[v0, v1, v2, v3, v4, v5] ∧
    But b w ((((((w.setCell ⟨b, 0, none⟩ v0).setCell ⟨b, 1, none⟩ v1).setCell ⟨b, 2, none⟩ v2).setCell ⟨b, 3, none⟩ v3).setCell ⟨b, 4, none⟩ v4).setCell ⟨b, 5, none⟩ v5) :=
  ⟨(((((hB.set 0 v0).set 1 v1).set 2 v2).set 3 v3).set 4 v4).set 5 v5, (((((But.set w b 0 v0).trans (But.set _ b 1 v1)).trans (But.set _ b 2 v2)).trans (But.set _ b 3 v3)).trans (But.set _ b 4 v4)).trans (But.set _ b 5 v5)⟩
theorem wpList_store6 {P : Program} (w : World) {ops : Array Oper} {rest : List Oper} {o : Oper} {a : Act} {Q : Exit → Act → World → Prop} (hgd : o.guard = none) (T : TypeId) (x y : Operand) (ho : o.op = .store T x y) (hdst : o.dst = none) (hsz : ∀ w, (sizeOf T).run P w = .ok 6 w)
    (b : Nat) (S : TypeId) (c0 c1 c2 c3 c4 c5 : Value) (t0 n0 : Int) (p1 p2 p3 p4 : Option Addr) (l1 l2 l3 l4 k1 k2 k3 k4 : Nat) (hx : a.eval x = .pointer (some ⟨b, 0, none⟩)) (hy : a.eval y = .agg #[.int .u8 t0, .slice p1 l1 k1, .slice p2 l2 k2, .slice p3 l3 k3, .slice p4 l4 k4, .int .i64 n0]) (hB : BlkA S b w #[c0, c1, c2, c3, c4, c5])
    (h : ∀ w', BlkA S b w' #[.int .u8 t0, .slice p1 l1 k1, .slice p2 l2 k2, .slice p3 l3 k3, .slice p4 l4 k4, .int .i64 n0] → But b w w' → wpList P ops Q rest a w') : wpList P ops Q (o :: rest) a w := by
  refine wpList_plain hgd fun K hK => ?_
  have z0 : w.cell? ⟨b, 0, none⟩ = some c0 := hB.cell rfl
  have z1 : w.cell? ⟨b, 1, none⟩ = some c1 := hB.cell rfl
  have z2 : w.cell? ⟨b, 2, none⟩ = some c2 := hB.cell rfl
  have z3 : w.cell? ⟨b, 3, none⟩ = some c3 := hB.cell rfl
  have z4 : w.cell? ⟨b, 4, none⟩ = some c4 := hB.cell rfl
  have z5 : w.cell? ⟨b, 5, none⟩ = some c5 := hB.cell rfl
  have f0 := hB.frozen 0
  have f1 := hB.frozen 1
  have f2 := hB.frozen 2
  have f3 := hB.frozen 3
  have f4 := hB.frozen 4
  have f5 := hB.frozen 5
  have hs := six_but6 hB (.int .u8 t0) (.slice p1 l1 k1) (.slice p2 l2 k2) (.slice p3 l3 k3) (.slice p4 l4 k4) (.int .i64 n0)
  unfold Oper.wp execOp
  simp only [ho, hx, hy]
  simp [go_sem, hsz, hdst, z0, z1, z2, z3, z4, z5, f0, f1, f2, f3, f4, f5, Oper.upon]
  exact hK _ _ (h _ hs.1 hs.2)
theorem size_actor : ∀ w, (sizeOf 31).run Try.prog w = .ok 6 w := fun _ => by kernel_rfl
end Go.Proofs.Ytehgkgbijhobdaa

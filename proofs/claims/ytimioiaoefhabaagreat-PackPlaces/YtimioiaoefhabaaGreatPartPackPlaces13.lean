/- Texts of one chain, laid one behind the other. -/
import Derived.Test.YtimioiaoefhabaaGreatPartPackPlaces12
import Derived.Deep.SlicePairs
import Derived.SizedLaws
namespace Go.Proofs.YtimioiaoefhabaaGreat
open Go.ChangeShapes Go.WideShapes Go.ChangeAt Go.RowKit
theorem Tryz.cellsNA : Tryz.prog.cellsOf 53 = 5 := by kernel_rfl
theorem Tryz.cellsNN : Tryz.prog.cellsOf 24 = 2 := by kernel_rfl
theorem Tryz.cellsNS : Tryz.prog.cellsOf 22 = 1 := by kernel_rfl
theorem Tryz.cells3N : Tryz.prog.cellsOf 3 = 1 := by kernel_rfl
theorem Tryz.bytesNA : Tryz.prog.bytesOf 53 = 40 := by kernel_rfl
theorem chooseN {α : Type} {n : Nat} {p : Nat → α → Prop} (d : α) (h : ∀ i, i < n → ∃ a, p i a) : ∃ f : Nat → α, ∀ i, i < n → p i (f i) :=
  ⟨fun i => if hi : i < n then (h i hi).choose else d, fun i hi => by simp only [hi, dif_pos]; exact (h i hi).choose_spec⟩
theorem off_noneN {W : World} {x : Addr} {v : Value} (h : W.cell? (x.add 0) = some v) : x.spot = none := by
  obtain ⟨b, off, sp⟩ := x
  cases sp with
  | none => rfl
  | some s => simp [World.cell?, Addr.add] at h; split at h <;> cases h
/-- What a walk is told of a net that came in. -/
structure ArgN (w : World) (a : Option Addr) (c : Nat) (n : NN) : Prop where
  lies : AtN w a n.arcs
  none : a = Option.none → n.arcs.length = 0 ∧ c = 0
  nodes : -9223372036854775808 ≤ n.nodes ∧ n.nodes ≤ 9223372036854775807
  room : n.arcs.length * 40 ≤ 140737488351232
theorem ArgN.below {w w' : World} {a : Option Addr} {c : Nat} {n : NN} (h : ArgN w a c n) (hb : Below w.heap.size w w') : ArgN w' a c n := ⟨h.lies.below hb, h.none, h.nodes, h.room⟩
section
variable {H : Type} {enc : TypeId × Value → H} {W : World} {base : Nat} {held : Bool}
set_option maxRecDepth 100000 in
theorem arcN_open {n : Nat} {cs : List Value} {y : DataW H × List MemPlace} (h : DataW.trod enc Tryz.prog W base (fun _ => true) held n 53 cs = some y) : ∃ p : NA, cs = fiveN p := by
  obtain ⟨xs, k, hk, hxy, hcl, hxl, hf⟩ := DataW.trod_struct Tryz.underlying53 h
  rw [Tryz.cellsNA] at hcl
  match xs, hxl, cs, hcl with
  | [y0, y1, y2, y3, y4], _, [v0, v1, v2, v3, v4], _ =>
    have g0 := hf 0 _ rfl
    have g1 := hf 1 _ rfl
    have g2 := hf 2 _ rfl
    have g3 := hf 3 _ rfl
    have g4 := hf 4 _ rfl
    simp [Tryz.cells3N] at g0 g1 g2 g3 g4
    obtain ⟨z0, q0, -, -⟩ := DataW.trod_int Tryz.underlying3 g0
    obtain ⟨z1, q1, -, -⟩ := DataW.trod_int Tryz.underlying3 g1
    obtain ⟨z2, q2, -, -⟩ := DataW.trod_int Tryz.underlying3 g2
    obtain ⟨z3, q3, -, -⟩ := DataW.trod_int Tryz.underlying3 g3
    obtain ⟨z4, q4, -, -⟩ := DataW.trod_int Tryz.underlying3 g4
    simp only [List.cons.injEq, and_true] at q0 q1 q2 q3 q4
    subst q0 q1 q2 q3 q4
    exact ⟨⟨z0, z1, z2, z3, z4⟩, rfl⟩
set_option maxRecDepth 100000 in
theorem arcsN_open {n : Nat} {v : Value} {y : DataW H × List MemPlace} (h : DataW.trod enc Tryz.prog W base (fun _ => true) held n 22 [v] = some y) :
    ∃ (a : Option Addr) (cap : Nat) (L : List NA), v = .slice a L.length cap ∧ (a = none → L.length = 0 ∧ cap = 0) ∧ AtN W a L ∧ ((y.1 = .nil ∧ L.length = 0) ∨ ∃ E S, y.1 = .slice E S ∧ E.length = L.length) := by
  rcases Deep.open_slice Tryz.underlying22 h with ⟨h1, h2⟩ | ⟨x, len, cap, m, n, D, Pl, h1, -, hl, -, hm, hd, hx⟩
  · simp only [List.cons.injEq, and_true] at h1
    subst h1
    exact ⟨none, 0, [], rfl, fun _ => ⟨rfl, rfl⟩, .inl rfl, .inl ⟨by rw [h2], rfl⟩⟩
  · simp only [List.cons.injEq, and_true] at h1
    subst h1
    simp only [if_true] at hm
    have each : ∀ i, i < len → ∃ p : NA, W.cells? base (x.add (i * 5)) 5 = some (fiveN p) := by
      intro i hi
      obtain ⟨cs', h1, h2⟩ := hx i (by omega)
      rw [Tryz.cellsNA] at h1
      obtain ⟨p, rfl⟩ := arcN_open h2
      exact ⟨p, h1⟩
    obtain ⟨q, hq⟩ := chooseN ⟨0, 0, 0, 0, 0⟩ each
    have hlen : ((List.range len).map q).length = len := by simp
    refine ⟨some x, cap, (List.range len).map q, by rw [hlen], (fun e => by cases e), ?_, .inr ⟨_, _, congrArg Prod.fst hd, by simp⟩⟩
    by_cases h0 : 0 < len
    · right
      have cell : ∀ i, i < len → ∀ j u, (fiveN (q i))[j]? = some u → W.cell? ((x.add (i * 5)).add j) = some u := fun i hi j u hu => by
        obtain ⟨_, hlen, hcc⟩ := World.cells?_some (hq i hi)
        have hj : j < 5 := (List.getElem?_eq_some_iff.1 hu).1
        rw [hcc j hj, hu]
      have hs := off_noneN (W := W) (x := x.add (0 * 5)) (cell 0 h0 0 _ rfl)
      obtain ⟨b, off, sp⟩ := x
      rw [Nat.zero_mul] at hs
      have hs' : sp = none := by simpa [Addr.add] using hs
      subst hs'
      refine ⟨b, off, rfl, fun k hk => ?_⟩
      have hk' : k < len := by simpa using hk
      have e : nthNa ((List.range len).map q) k = q k := by
        unfold nthNa
        rw [List.getD_eq_getElem?_getD, List.getElem?_eq_getElem hk, List.getElem_map, List.getElem_range]
        rfl
      rw [e]
      have key : ∀ j u, (fiveN (q k))[j]? = some u → W.cell? ⟨b, off + k * 5 + j, none⟩ = some u := fun j u hu => by
        have cc := cell k hk' j u hu
        rw [Addr.add_lit, Addr.add_lit] at cc
        exact cc
      exact ⟨key 0 _ rfl, key 1 _ rfl, key 2 _ rfl, key 3 _ rfl, key 4 _ rfl⟩
    · left
      have e : len = 0 := by omega
      subst e
      rfl
set_option maxRecDepth 100000 in
theorem net_open0 {r : Reach} {b0 : Nat} {v : Value} {d : DataW H} {p : List MemPlace} (hv : Value.okWide Tryz.prog W r b0 24 v) (h : DataW.Trod enc Tryz.prog W base (fun _ => true) held 24 v d p) :
    ∃ (n : NN) (a : Option Addr) (c : Nat) (d0 d1 : DataW H), v = .agg #[.int .i64 n.nodes, .slice a n.arcs.length c] ∧ AtN W a n.arcs ∧ (a = none → n.arcs.length = 0 ∧ c = 0) ∧ (-9223372036854775808 ≤ n.nodes ∧ n.nodes ≤ 9223372036854775807) ∧ d = .agg [d0, d1] ∧ ((d1 = .nil ∧ n.arcs.length = 0) ∨ ∃ E S, d1 = .slice E S ∧ E.length = n.arcs.length) := by
  obtain ⟨cs, rfl, hsz⟩ := okWide_struct Tryz.underlying24 hv
  rw [Tryz.cellsNN] at hsz
  obtain ⟨fuel, hf⟩ := h
  obtain ⟨xs, k, hk, hxy, hcl, hxl, hf⟩ := DataW.trod_struct Tryz.underlying24 hf
  obtain ⟨l⟩ := cs
  match xs, hxl, l, hsz with
  | [y0, y1], _, [v0, v1], _ =>
    have g0 := hf 0 _ rfl
    have g1 := hf 1 _ rfl
    simp [Value.cells, Tryz.cells3N, Tryz.cellsNS] at g0 g1
    have hd := congrArg Prod.fst hxy
    simp only at hd
    obtain ⟨z0, q0, -, b0⟩ := DataW.trod_int Tryz.underlying3 g0
    simp only [List.cons.injEq, and_true] at q0
    subst q0
    obtain ⟨a, c, L, rfl, hn, hat, hL⟩ := arcsN_open g1
    exact ⟨⟨z0, L⟩, a, c, y0.1, y1.1, rfl, hat, hn, bounds_i64 b0, hd, hL⟩
set_option maxRecDepth 100000 in
theorem net_open {r : Reach} {b0 : Nat} {v : Value} {d : DataW H} {p : List MemPlace} (hv : Value.okWide Tryz.prog W r b0 24 v) (h : DataW.Trod enc Tryz.prog W base (fun _ => true) held 24 v d p) (hw : (d.weights Tryz.prog 24).all (· ≤ reachBytes) = true) :
    ∃ (n : NN) (a : Option Addr) (c : Nat), v = .agg #[.int .i64 n.nodes, .slice a n.arcs.length c] ∧ ArgN W a c n := by
  obtain ⟨n, a, c, d0, d1, h1, h2, h3, h4, rfl, h5⟩ := net_open0 hv h
  refine ⟨n, a, c, h1, h2, h3, h4, ?_⟩
  rcases h5 with ⟨-, e⟩ | ⟨E, S, rfl, e⟩
  · omega
  · simp only [DataW.weights, Tryz.underlying24] at hw
    rw [List.all_eq_true] at hw
    have w1 : ((DataW.slice E S).weights Tryz.prog 22).all (· ≤ reachBytes) = true := by rw [List.all_eq_true]; exact fun m hm => hw m (DataW.weights_mem_each (j := 1) (t := 22) (d := .slice E S) rfl rfl m hm)
    simp only [DataW.weights, Tryz.underlying22, List.all_cons, List.all_append, Bool.and_eq_true, decide_eq_true_eq, Tryz.bytesNA] at w1
    have := w1.1
    simp only [reachBytes] at this
    omega
end
end Go.Proofs.YtimioiaoefhabaaGreat

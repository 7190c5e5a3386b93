/- Texts of one chain, laid one behind the other. -/
import Derived.Test.YtbpoifjlembcbaaPartGraphPorts25
import Derived.Deep.SlicePairs
import Derived.SizedLaws
import Derived.Test.YtbpoifjlembcbaaPartGraphPorts7
import Derived.Test.YtbpoifjlembcbaaPartGraphPorts9
import Derived.Test.YtbpoifjlembcbaaPartGraphPorts20
import Derived.Laws.AppendOwnNone
namespace Go.Proofs.Ytbpoifjlembcbaa
open Go.ChangeShapes Go.WideShapes Go.ChangeAt Go.RowKit
theorem Try.cellsGA : Try.prog.cellsOf 57 = 3 := by kernel_rfl
theorem Try.cellsGE : Try.prog.cellsOf 60 = 5 := by kernel_rfl
theorem Try.cellsGP : Try.prog.cellsOf 62 = 3 := by kernel_rfl
theorem Try.cellsGG : Try.prog.cellsOf 31 = 5 := by kernel_rfl
theorem Try.cellsSA : Try.prog.cellsOf 27 = 1 := by kernel_rfl
theorem Try.cellsSE : Try.prog.cellsOf 28 = 1 := by kernel_rfl
theorem Try.cellsSP : Try.prog.cellsOf 29 = 1 := by kernel_rfl
theorem Try.cellsSL : Try.prog.cellsOf 46 = 1 := by kernel_rfl
theorem Try.cellsTG : Try.prog.cellsOf 55 = 1 := by kernel_rfl
theorem Try.cells9G : Try.prog.cellsOf 9 = 1 := by kernel_rfl
theorem Try.cells3G : Try.prog.cellsOf 3 = 1 := by kernel_rfl
theorem Try.bytesGA : Try.prog.bytesOf 57 = 48 := by kernel_rfl
theorem Try.bytesGE : Try.prog.bytesOf 60 = 56 := by kernel_rfl
theorem Try.bytesGP : Try.prog.bytesOf 62 = 32 := by kernel_rfl
theorem Try.bytes3G : Try.prog.bytesOf 3 = 8 := by kernel_rfl
theorem chooseG {α : Type} {n : Nat} {p : Nat → α → Prop} (d : α) (h : ∀ i, i < n → ∃ a, p i a) : ∃ f : Nat → α, ∀ i, i < n → p i (f i) :=
  ⟨fun i => if hi : i < n then (h i hi).choose else d, fun i hi => by simp only [hi, dif_pos]; exact (h i hi).choose_spec⟩
theorem off_noneG {W : World} {x : Addr} {v : Value} (h : W.cell? (x.add 0) = some v) : x.spot = none := by
  obtain ⟨b, off, sp⟩ := x
  cases sp with
  | none => rfl
  | some s => simp [World.cell?, Addr.add] at h; split at h <;> cases h
/-- What a walk is told of a graph that came in. -/
structure ArgG (w : World) (a1 a2 a3 a4 : Option Addr) (c3 c4 : Nat) (g : GG) : Prop where
  gr : GrG w a1 a2 a3 a4 g
  n3 : a3 = none → c3 = 0
  n4 : a4 = none → c4 = 0
theorem ArgG.below {w w' : World} {a1 a2 a3 a4 : Option Addr} {c3 c4 : Nat} {g : GG} (h : ArgG w a1 a2 a3 a4 c3 c4 g) (hb : Below w.heap.size w w') : ArgG w' a1 a2 a3 a4 c3 c4 g := ⟨h.gr.below hb, h.n3, h.n4⟩
section
variable {H : Type} {enc : TypeId × Value → H} {W : World} {base : Nat} {held : Bool}
theorem wAll_memG {P : Program} {e : TypeId} {q : Nat → Bool} : ∀ {l : List (DataW H)} {d : DataW H}, d ∈ l → (DataW.weightsAll P e l).all q = true → (d.weights P e).all q = true
  | [], _, h, _ => by simp at h
  | d0 :: l, d, h, hw => by
    simp only [DataW.weightsAll, List.all_append, Bool.and_eq_true] at hw
    rcases List.mem_cons.1 h with rfl | h
    · exact hw.1
    · exact wAll_memG h hw.2
/-- What is known of a slice of numbers that came in. -/
theorem numsG_open {n : Nat} {v : Value} {y : DataW H × List MemPlace} (h : DataW.trod enc Try.prog W base (fun _ => true) held n 46 [v] = some y) (hw : (y.1.weights Try.prog 46).all (· ≤ reachBytes) = true) :
    ∃ (ns : List Int) (x : Option Addr) (c : Nat), v = .slice x ns.length c ∧ Arg W x ns.length c ns := by
  rcases open_ints Try.underlying46 Try.underlying3 Try.cells3G h with ⟨h1, -⟩ | ⟨a, len, cap, zs, h1, -, hl, -, hz, hx, hc, hb⟩
  · simp only [List.cons.injEq, and_true] at h1
    subst h1
    exact ⟨[], none, 0, rfl, arg_nil⟩
  · simp only [List.cons.injEq, and_true] at h1
    subst h1
    simp only [if_true] at hz
    have hl2 : (zs.take len).length = len := by rw [List.length_take]; omega
    have hr : len * 8 ≤ 140737488351232 := by
      rw [hx] at hw
      simp only [DataW.weights, Try.underlying46, List.all_cons, Bool.and_eq_true, decide_eq_true_eq, Try.bytes3G] at hw
      have := hw.1
      simp only [reachBytes, lits, List.length_map, List.length_take, List.length_drop] at this
      omega
    refine ⟨zs.take len, some a, cap, by rw [hl2], ?_⟩
    rw [hl2]
    exact arg_mk hl hz hc hb hr
set_option maxRecDepth 100000 in
theorem actorG_open {n : Nat} {cs : List Value} {y : DataW H × List MemPlace} (h : DataW.trod enc Try.prog W base (fun _ => true) held n 57 cs = some y) (hw : (y.1.weights Try.prog 57).all (· ≤ reachBytes) = true) :
    ∃ p : GA × Value, cs = aP p ∧ ParA W p := by
  obtain ⟨xs, k, hk, hxy, hcl, hxl, hf⟩ := DataW.trod_struct Try.underlying57 h
  rw [Try.cellsGA] at hcl
  match xs, hxl, cs, hcl with
  | [y0, y1, y2], _, [v0, v1, v2], _ =>
    have g0 := hf 0 _ rfl
    have g1 := hf 1 _ rfl
    have g2 := hf 2 _ rfl
    simp [Try.cells9G, Try.cellsTG, Try.cellsSL] at g0 g1 g2
    have hw2 : (y2.1.weights Try.prog 46).all (· ≤ reachBytes) = true := by
      rw [hxy] at hw
      simp only [DataW.weights, Try.underlying57] at hw
      rw [List.all_eq_true] at hw ⊢
      exact fun m hm => hw m (DataW.weights_mem_each (j := 2) (t := 46) (d := y2.1) rfl rfl m hm)
    obtain ⟨z0, q0, -⟩ := DataW.trod_string Try.underlying9 g0
    obtain ⟨z1, q1, -, b1⟩ := DataW.trod_int Try.underlying55 g1
    obtain ⟨ns, x, c, q2, hA⟩ := numsG_open g2 hw2
    simp only [List.cons.injEq, and_true] at q0 q1
    subst q0 q1 q2
    have bd := bounds_u8 b1
    obtain ⟨tg, rfl⟩ : ∃ t : Nat, z1 = (t : Int) := ⟨z1.toNat, by omega⟩
    exact ⟨(⟨z0.data.toList, tg, ns⟩, .slice x ns.length c), rfl, by show tg ≤ 255; omega, x, c, rfl, hA⟩
set_option maxRecDepth 100000 in
theorem edgeG_open {n : Nat} {cs : List Value} {y : DataW H × List MemPlace} (h : DataW.trod enc Try.prog W base (fun _ => true) held n 60 cs = some y) (hw : (y.1.weights Try.prog 60).all (· ≤ reachBytes) = true) :
    ∃ p : GE × Value, cs = eP p ∧ ParE W p := by
  obtain ⟨xs, k, hk, hxy, hcl, hxl, hf⟩ := DataW.trod_struct Try.underlying60 h
  rw [Try.cellsGE] at hcl
  match xs, hxl, cs, hcl with
  | [y0, y1, y2, y3, y4], _, [v0, v1, v2, v3, v4], _ =>
    have g0 := hf 0 _ rfl
    have g1 := hf 1 _ rfl
    have g2 := hf 2 _ rfl
    have g3 := hf 3 _ rfl
    have g4 := hf 4 _ rfl
    simp [Try.cells3G, Try.cellsSL] at g0 g1 g2 g3 g4
    have hw4 : (y4.1.weights Try.prog 46).all (· ≤ reachBytes) = true := by
      rw [hxy] at hw
      simp only [DataW.weights, Try.underlying60] at hw
      rw [List.all_eq_true] at hw ⊢
      exact fun m hm => hw m (DataW.weights_mem_each (j := 4) (t := 46) (d := y4.1) rfl rfl m hm)
    obtain ⟨z0, q0, -, -⟩ := DataW.trod_int Try.underlying3 g0
    obtain ⟨z1, q1, -, -⟩ := DataW.trod_int Try.underlying3 g1
    obtain ⟨z2, q2, -, -⟩ := DataW.trod_int Try.underlying3 g2
    obtain ⟨z3, q3, -, -⟩ := DataW.trod_int Try.underlying3 g3
    obtain ⟨ns, x, c, q4, hA⟩ := numsG_open g4 hw4
    simp only [List.cons.injEq, and_true] at q0 q1 q2 q3
    subst q0 q1 q2 q3 q4
    exact ⟨(⟨z0, z1, z2, z3, ns⟩, .slice x ns.length c), rfl, x, c, rfl, hA⟩
set_option maxRecDepth 100000 in
theorem portG_open {n : Nat} {cs : List Value} {y : DataW H × List MemPlace} (h : DataW.trod enc Try.prog W base (fun _ => true) held n 62 cs = some y) :
    ∃ p : GP, cs = pP p ∧ True := by
  obtain ⟨xs, k, hk, hxy, hcl, hxl, hf⟩ := DataW.trod_struct Try.underlying62 h
  rw [Try.cellsGP] at hcl
  match xs, hxl, cs, hcl with
  | [y0, y1, y2], _, [v0, v1, v2], _ =>
    have g0 := hf 0 _ rfl
    have g1 := hf 1 _ rfl
    have g2 := hf 2 _ rfl
    simp [Try.cells9G, Try.cells3G] at g0 g1 g2
    obtain ⟨z0, q0, -⟩ := DataW.trod_string Try.underlying9 g0
    obtain ⟨z1, q1, -, -⟩ := DataW.trod_int Try.underlying3 g1
    obtain ⟨z2, q2, -, -⟩ := DataW.trod_int Try.underlying3 g2
    simp only [List.cons.injEq, and_true] at q0 q1 q2
    subst q0 q1 q2
    exact ⟨⟨z0.data.toList, z1, z2⟩, rfl, trivial⟩
theorem sliceG_open {α : Type} (S T : TypeId) (c bt : Nat) (f : α → List Value) (hfl : ∀ x, (f x).length = c) (d0 : α) (hS : Try.prog.underlying S = some (.slice T)) (hc0 : 0 < c) (hc : Try.prog.cellsOf T = c) (hby : Try.prog.bytesOf T = bt) (P : α → Prop)
    (hel : ∀ {n : Nat} {cs : List Value} {y : DataW H × List MemPlace}, DataW.trod enc Try.prog W base (fun _ => true) held n T cs = some y → (y.1.weights Try.prog T).all (· ≤ reachBytes) = true → ∃ p, cs = f p ∧ P p)
    {n : Nat} {v : Value} {y : DataW H × List MemPlace} (h : DataW.trod enc Try.prog W base (fun _ => true) held n S [v] = some y) (hw : (y.1.weights Try.prog S).all (· ≤ reachBytes) = true) :
    ∃ (a : Option Addr) (cap : Nat) (L : List α), v = .slice a L.length cap ∧ (a = none → cap = 0) ∧ L.length * bt ≤ 140737488351232 ∧ (∀ p ∈ L, P p) ∧ (L = [] ∨ ∃ b off, a = some ⟨b, off, none⟩ ∧ ∀ k (hk : k < L.length), ∀ j u, (f L[k])[j]? = some u → W.cell? ⟨b, off + k * c + j, none⟩ = some u) := by
  rcases Deep.open_slice hS h with ⟨h1, -⟩ | ⟨x, len, cap, m, n, D, Pl, h1, -, hl, -, hm, hd, hx⟩
  · simp only [List.cons.injEq, and_true] at h1
    subst h1
    exact ⟨none, 0, [], rfl, fun _ => rfl, by simp, fun p hp => (by cases hp), .inl rfl⟩
  · simp only [List.cons.injEq, and_true] at h1
    subst h1
    simp only [if_true] at hm
    rw [hd] at hw
    simp only [DataW.weights, hS, List.all_cons, List.all_append, Bool.and_eq_true, decide_eq_true_eq, hby] at hw
    obtain ⟨wr, we, -⟩ := hw
    simp only [reachBytes, List.length_map, List.length_range] at wr
    have each : ∀ i, i < len → ∃ p : α, W.cells? base (x.add (i * c)) c = some (f p) ∧ P p := by
      intro i hi
      obtain ⟨cs', h1, h2⟩ := hx i (by omega)
      rw [hc] at h1
      obtain ⟨p, rfl, hp⟩ := hel h2 (wAll_memG (List.mem_map.2 ⟨i, List.mem_range.2 hi, rfl⟩) we)
      exact ⟨p, h1, hp⟩
    obtain ⟨q, hq⟩ := chooseG d0 each
    have hlen : ((List.range len).map q).length = len := by simp
    refine ⟨some x, cap, (List.range len).map q, by rw [hlen], (fun e => by cases e), ?_, fun p hp => ?_, ?_⟩
    · rw [hlen]
      have h2 : len * bt ≤ m * bt := Nat.mul_le_mul_right _ (by omega)
      have h3 : len * bt ≤ (len + (m - len)) * bt := Nat.mul_le_mul_right _ (Nat.le_add_right _ _)
      omega
    · obtain ⟨i, hi, rfl⟩ := List.mem_map.1 hp
      exact (hq i (List.mem_range.1 hi)).2
    · by_cases h0 : 0 < len
      · right
        have cell : ∀ i, i < len → ∀ j u, (f (q i))[j]? = some u → W.cell? ((x.add (i * c)).add j) = some u := fun i hi j u hu => by
          obtain ⟨_, hlen, hcc⟩ := World.cells?_some (hq i hi).1
          have hj : j < c := by
            have := (List.getElem?_eq_some_iff.1 hu).1
            rw [hfl] at this
            exact this
          rw [hcc j hj, hu]
        obtain ⟨u0, hu0⟩ : ∃ u, (f (q 0))[0]? = some u := ⟨_, List.getElem?_eq_getElem (by rw [hfl]; exact hc0)⟩
        have hs := off_noneG (W := W) (x := x.add (0 * c)) (cell 0 h0 0 u0 hu0)
        obtain ⟨b, off, sp⟩ := x
        rw [Nat.zero_mul] at hs
        have hs' : sp = none := by simpa [Addr.add] using hs
        subst hs'
        refine ⟨b, off, rfl, fun k hk j u hu => ?_⟩
        have hk' : k < len := by simpa using hk
        rw [List.getElem_map, List.getElem_range] at hu
        have cc := cell k hk' j u hu
        rw [Addr.add_lit, Addr.add_lit] at cc
        exact cc
      · left
        have e : len = 0 := by omega
        subst e
        rfl
set_option maxRecDepth 100000 in
theorem graph_open {r : Reach} {b0 : Nat} {v : Value} {d : DataW H} {p : List MemPlace} (hv : Value.okWide Try.prog W r b0 31 v) (h : DataW.Trod enc Try.prog W base (fun _ => true) held 31 v d p) (hw : (d.weights Try.prog 31).all (· ≤ reachBytes) = true) :
    ∃ (g : GG) (a1 a2 a3 a4 : Option Addr) (c1 c2 c3 c4 : Nat), v = .agg #[.string (str g.name), .slice a1 g.actors.length c1, .slice a2 g.edges.length c2, .slice a3 g.ins.length c3, .slice a4 g.outs.length c4] ∧ ArgG W a1 a2 a3 a4 c3 c4 g := by
  obtain ⟨cs, rfl, hsz⟩ := okWide_struct Try.underlying31 hv
  rw [Try.cellsGG] at hsz
  obtain ⟨fuel, hf⟩ := h
  obtain ⟨xs, k, hk, hxy, hcl, hxl, hf⟩ := DataW.trod_struct Try.underlying31 hf
  obtain ⟨l⟩ := cs
  match xs, hxl, l, hsz with
  | [y0, y1, y2, y3, y4], _, [v0, v1, v2, v3, v4], _ =>
    have g0 := hf 0 _ rfl
    have g1 := hf 1 _ rfl
    have g2 := hf 2 _ rfl
    have g3 := hf 3 _ rfl
    have g4 := hf 4 _ rfl
    simp [Value.cells, Try.cells9G, Try.cellsSA, Try.cellsSE, Try.cellsSP] at g0 g1 g2 g3 g4
    have hd := congrArg Prod.fst hxy
    simp only at hd
    rw [hd] at hw
    simp only [DataW.weights, Try.underlying31] at hw
    rw [List.all_eq_true] at hw
    have w1 : (y1.1.weights Try.prog 27).all (· ≤ reachBytes) = true := by rw [List.all_eq_true]; exact fun m hm => hw m (DataW.weights_mem_each (j := 1) (t := 27) (d := y1.1) rfl rfl m hm)
    have w2 : (y2.1.weights Try.prog 28).all (· ≤ reachBytes) = true := by rw [List.all_eq_true]; exact fun m hm => hw m (DataW.weights_mem_each (j := 2) (t := 28) (d := y2.1) rfl rfl m hm)
    have w3 : (y3.1.weights Try.prog 29).all (· ≤ reachBytes) = true := by rw [List.all_eq_true]; exact fun m hm => hw m (DataW.weights_mem_each (j := 3) (t := 29) (d := y3.1) rfl rfl m hm)
    have w4 : (y4.1.weights Try.prog 29).all (· ≤ reachBytes) = true := by rw [List.all_eq_true]; exact fun m hm => hw m (DataW.weights_mem_each (j := 4) (t := 29) (d := y4.1) rfl rfl m hm)
    obtain ⟨z0, q0, -⟩ := DataW.trod_string Try.underlying9 g0
    simp only [List.cons.injEq, and_true] at q0
    subst q0
    obtain ⟨a1, c1, As, rfl, -, n1, p1, r1⟩ := sliceG_open 27 57 3 48 aP aP_len (⟨[], 0, []⟩, Value.slice none 0 0) Try.underlying27 (by decide) Try.cellsGA Try.bytesGA (ParA W) (fun h hw => actorG_open h hw) g1 w1
    obtain ⟨a2, c2, Es, rfl, -, n2, p2, r2⟩ := sliceG_open 28 60 5 56 eP eP_len (⟨0, 0, 0, 0, []⟩, Value.slice none 0 0) Try.underlying28 (by decide) Try.cellsGE Try.bytesGE (ParE W) (fun h hw => edgeG_open h hw) g2 w2
    obtain ⟨a3, c3, Ps, rfl, m3, n3, -, r3⟩ := sliceG_open 29 62 3 32 pP pP_len ⟨[], 0, 0⟩ Try.underlying29 (by decide) Try.cellsGP Try.bytesGP (fun _ => True) (fun h _ => portG_open h) g3 w3
    obtain ⟨a4, c4, Os, rfl, m4, n4, -, r4⟩ := sliceG_open 29 62 3 32 pP pP_len ⟨[], 0, 0⟩ Try.underlying29 (by decide) Try.cellsGP Try.bytesGP (fun _ => True) (fun h _ => portG_open h) g4 w4
    refine ⟨⟨z0.data.toList, As.map Prod.fst, Es.map Prod.fst, Ps, Os⟩, a1, a2, a3, a4, c1, c2, c3, c4, by simp only [List.length_map]; rfl, ⟨?_, ?_, ?_, ?_, by show (As.map Prod.fst).length ≤ _; rw [List.length_map]; omega, by show (Es.map Prod.fst).length ≤ _; rw [List.length_map]; omega, by show Ps.length ≤ _; omega, by show Os.length ≤ _; omega⟩, m3, m4⟩
    · rcases r1 with rfl | ⟨b, off, rfl, hc⟩
      · exact .inl rfl
      · refine .inr ⟨b, off, rfl, fun k hk => ?_⟩
        rw [List.length_map] at hk
        have e : nthA (As.map Prod.fst) k = As[k].1 := by rw [nthA_get (by rw [List.length_map]; exact hk), List.getElem_map]
        obtain ⟨h1, x, c, h2, h3⟩ := p1 As[k] (List.getElem_mem hk)
        rw [e]
        exact ⟨hc k hk 0 _ rfl, hc k hk 1 _ rfl, h1, x, c, hc k hk 2 _ (by rw [← h2]; rfl), h3⟩
    · rcases r2 with rfl | ⟨b, off, rfl, hc⟩
      · exact .inl rfl
      · refine .inr ⟨b, off, rfl, fun k hk => ?_⟩
        rw [List.length_map] at hk
        have e : nthE (Es.map Prod.fst) k = Es[k].1 := by rw [nthE_get (by rw [List.length_map]; exact hk), List.getElem_map]
        obtain ⟨x, c, h2, h3⟩ := p2 Es[k] (List.getElem_mem hk)
        rw [e]
        exact ⟨hc k hk 0 _ rfl, hc k hk 1 _ rfl, hc k hk 2 _ rfl, hc k hk 3 _ rfl, x, c, hc k hk 4 _ (by rw [← h2]; rfl), h3⟩
    · rcases r3 with rfl | ⟨b, off, rfl, hc⟩
      · exact .inl rfl
      · refine .inr ⟨b, off, rfl, fun k hk => ?_⟩
        rw [nthP_get hk]
        exact ⟨hc k hk 0 _ rfl, hc k hk 1 _ rfl, hc k hk 2 _ rfl⟩
    · rcases r4 with rfl | ⟨b, off, rfl, hc⟩
      · exact .inl rfl
      · refine .inr ⟨b, off, rfl, fun k hk => ?_⟩
        rw [nthP_get hk]
        exact ⟨hc k hk 0 _ rfl, hc k hk 1 _ rfl, hc k hk 2 _ rfl⟩
end
/-- A graph that is not heavy. -/
structure Light (g : GG) : Prop where
  a : g.actors.length ≤ 1048576
  e : g.edges.length ≤ 1048576
  i : g.ins.length ≤ 1048576
  o : g.outs.length ≤ 1048576
  pa : ∀ x ∈ g.actors, x.params.length ≤ 1048576
  pe : ∀ x ∈ g.edges, x.start.length ≤ 1048576
theorem GrA.len {w : World} {a : Option Addr} {As : List GA} (h : GrA w a As) : ∀ x ∈ As, x.params.length ≤ 17592186043904 := fun x hx => by
  obtain ⟨k, hk, rfl⟩ := memA hx
  rcases h with h | ⟨b, off, -, hc⟩
  · rw [h] at hk; exact absurd hk (Nat.not_lt_zero _)
  · obtain ⟨-, -, -, y, c, -, h5⟩ := hc k hk
    have := h5.reach
    omega
theorem GrE.len {w : World} {a : Option Addr} {As : List GE} (h : GrE w a As) : ∀ x ∈ As, x.start.length ≤ 17592186043904 := fun x hx => by
  obtain ⟨k, hk, rfl⟩ := memE hx
  rcases h with h | ⟨b, off, -, hc⟩
  · rw [h] at hk; exact absurd hk (Nat.not_lt_zero _)
  · obtain ⟨-, -, -, -, y, c, -, h5⟩ := hc k hk
    have := h5.reach
    omega
theorem flat_len {α : Type} (f : α → List Value) (c : Nat) (hc : ∀ x, (f x).length = c) : ∀ (L : List α), (L.flatMap f).length = L.length * c
  | [] => by simp
  | x :: r => by rw [List.flatMap_cons, List.length_append, hc, flat_len f c hc r, List.length_cons, Nat.succ_mul]; omega
/-- The head of a row of a call's own is one, too. -/
theorem owns_head {w : World} {base T c g n cap : Nat} {xs ys : List Value} {m : Nat} (h : w.ownsRow base T c (.slice (some ⟨g, 0, none⟩) n cap) n (xs ++ ys)) (hm : xs.length = m * c) (hmn : m ≤ n) : w.ownsRow base T c (.slice (some ⟨g, 0, none⟩) m cap) m xs := by
  obtain ⟨h1, h2⟩ := h
  refine ⟨hm, ?_⟩
  rcases h2 with ⟨hv, -⟩ | ⟨g', c', cur, hv, hg, hh, hc, hmm, hs, ht⟩
  · cases hv
  · cases hv
    refine .inr ⟨_, _, cur, rfl, hg, hh, by omega, hmm, hs, ?_⟩
    have h3 := congrArg (List.take (m * c)) ht
    rw [List.take_take, Nat.min_eq_left (Nat.mul_le_mul_right _ hmn)] at h3
    rw [h3, ← hm, List.take_left]
def markP : GP := ⟨[109, 97, 114, 107], -7770777, 0⟩
/-- Ports that were lent: a row of their own, a marked one behind them. -/
def LentP (B : Nat) (w : World) (a : Option Addr) (c : Nat) (Ps : List GP) : Prop := ∃ b, a = some ⟨b, 0, none⟩ ∧ B ≤ b ∧ Ps.length + 1 ≤ c ∧ w.ownsRow B 62 3 (.slice a (Ps.length + 1) c) (Ps.length + 1) (Ps.flatMap pP ++ pP markP)
theorem LentP.keep {B : Nat} {w w' : World} {a : Option Addr} {c : Nat} {Ps : List GP} (h : LentP B w a c Ps) (hk : ∀ k, B ≤ k → k < w.heap.size → w'.heap[k]? = w.heap[k]?) : LentP B w' a c Ps := by
  obtain ⟨b, h1, h2, h3, h4⟩ := h
  exact ⟨b, h1, h2, h3, ownR_keep h4 fun k e => hk k (own_row h4 k e) (own_lt h4 k e)⟩
theorem LentP.at {B : Nat} {w : World} {a : Option Addr} {c : Nat} {Ps : List GP} (h : LentP B w a c Ps) : AtPt w a Ps := by
  obtain ⟨b, rfl, -, -, h4⟩ := h
  exact rowP_at (n := Ps.length) (cp := c) (owns_head h4 (flat_len pP 3 pP_len Ps) (Nat.le_succ _))
theorem cell_blk {w w' : World} {b k : Nat} (h : w'.heap[b]? = w.heap[b]?) : w'.cell? ⟨b, k, none⟩ = w.cell? ⟨b, k, none⟩ := by simp [World.cell?, h]
theorem Lend.keepB {B : Nat} {w w' : World} {g len : Nat} {zs : List Int} (h : Lend B w g len zs) (hk : w'.heap[g]? = w.heap[g]?) : Lend B w' g len zs := by
  obtain ⟨h1, h2, h3⟩ := h
  refine ⟨h1, h2, ?_⟩
  rcases h3 with h3 | ⟨b, off, e, hc⟩
  · exact .inl h3
  · cases e
    exact .inr ⟨g, 0, rfl, fun k hk2 => by rw [cell_blk hk]; exact hc k hk2⟩
theorem Lend.lt {B : Nat} {w : World} {g len : Nat} {zs : List Int} (h : Lend B w g len zs) : g < w.heap.size := block_lt_of_cell (h.cells.2 len (Nat.le_refl _) (by omega))
theorem Lend.base {B B' : Nat} {w : World} {g len : Nat} {zs : List Int} (h : Lend B w g len zs) (hb : B' ≤ B) : Lend B' w g len zs := ⟨Nat.le_trans hb h.1, h.2⟩
theorem Lend.arg {B : Nat} {w : World} {g : Nat} {zs : List Int} (h : Lend B w g zs.length zs) (ho : NumsOk zs) : Arg w (some ⟨g, 0, none⟩) zs.length (zs.length + 4) zs := ⟨rfl, ho.2, (fun e => by cases e), ho.1, h.at, by omega⟩
/-- Numbers that were lent. -/
def LentQ (B : Nat) (w : World) (q : Value) (ns : List Int) : Prop := ∃ gq, q = .slice (some ⟨gq, 0, none⟩) ns.length (ns.length + 4) ∧ Lend B w gq ns.length ns
theorem LentQ.lt {B : Nat} {w : World} {q : Value} {ns : List Int} (h : LentQ B w q ns) : ∀ k, q.ownBlock = some k → B ≤ k ∧ k < w.heap.size := by
  obtain ⟨gq, rfl, h⟩ := h
  intro k e
  cases e
  exact ⟨h.1, h.lt⟩
theorem LentQ.keep {B : Nat} {w w' : World} {q : Value} {ns : List Int} (h : LentQ B w q ns) (hk : ∀ k, q.ownBlock = some k → w'.heap[k]? = w.heap[k]?) : LentQ B w' q ns := by
  obtain ⟨gq, rfl, h⟩ := h
  exact ⟨gq, rfl, h.keepB (hk gq rfl)⟩
theorem LentQ.base {B B' : Nat} {w : World} {q : Value} {ns : List Int} (h : LentQ B w q ns) (hb : B' ≤ B) : LentQ B' w q ns := by
  obtain ⟨gq, h1, h2⟩ := h
  exact ⟨gq, h1, h2.base hb⟩
def markA : GA × Value := (⟨[109, 97, 114, 107], 99, []⟩, .slice none 0 0)
def markE : GE × Value := (⟨-7770777, 0, 0, 0, []⟩, .slice none 0 0)
structure LtA (w W1 : World) (nm : List UInt8) (u2 u3 u4 v : Value) (M : List (GA × Value)) (wr : World) : Prop where
  ob : BlkA 31 (w.heap.size + 2) wr #[.string (str nm), v, u2, u3, u4]
  row : wr.ownsRow W1.heap.size 57 3 v M.length (M.flatMap aP)
  qs : ∀ p ∈ M, LentQ W1.heap.size wr p.2 p.1.params
  ap : ∀ p ∈ M, NB v p.2
  chg : Chg (fun k => k = w.heap.size + 2 ∨ W1.heap.size ≤ k) W1 wr
  hk : w.heap.size + 2 < W1.heap.size
theorem LtA.put {w W1 nm u2 u3 u4 v M} {V : World} (h : LtA w W1 nm u2 u3 u4 v M V) {w2 w4 : World} {p : GA × Value} {v' : Value} (hb : Below V.heap.size V w2) (hq : LentQ V.heap.size w2 p.2 p.1.params)
    (ho : w4.ownsRow W1.heap.size 57 3 v' (M.length + 1) (M.flatMap aP ++ aP p))
    (ht : (∃ g cap, v = .slice (some ⟨g, 0, none⟩) M.length cap ∧ v' = .slice (some ⟨g, 0, none⟩) (M.length + 1) cap ∧ w2.grownBy w4 (some g)) ∨ (∃ cap, v' = .slice (some ⟨w2.heap.size, 0, none⟩) (M.length + 1) cap ∧ w2.grownBy w4 none)) :
    LtA w W1 nm u2 u3 u4 v' (M ++ [p]) (w4.setCell ⟨w.heap.size + 2, 1, none⟩ v') ∧ BlkA 31 (w.heap.size + 2) w4 #[.string (str nm), v, u2, u3, u4] := by
  have hk := h.hk
  have h1 := h.chg.size
  have hsz := hb.size
  have tk := told_keep ht
  have kp : ∀ d, d < V.heap.size → v.ownBlock ≠ some d → w4.heap[d]? = V.heap[d]? := fun d hd hn => (tk.2 d (by omega) hn).trans (hb.block d hd)
  have lowr : ∀ d, d < W1.heap.size → v.ownBlock ≠ some d := fun d hd e => by have := own_row h.row d e; omega
  have b3 := h.ob.keep (kp _ (by omega) (lowr _ hk))
  have set : ∀ k, k ≠ w.heap.size + 2 → (w4.setCell ⟨w.heap.size + 2, 1, none⟩ v').heap[k]? = w4.heap[k]? := fun k hk => Below.heap_setCell w4 ⟨w.heap.size + 2, 1, none⟩ v' k hk
  have np : NB v p.2 := fun k e1 e2 => by have := own_lt h.row k e1; have := (hq.lt k e2).1; omega
  refine ⟨⟨b3.set 1 v', ?_, fun q hq' => ?_, fun q hq' => ?_, ?_, hk⟩, b3⟩
  · rw [flat_one, List.length_append]
    exact ownR_keep ho fun k e => set k (by have := own_row ho k e; omega)
  · rcases List.mem_append.1 hq' with hm | hm
    · have l := h.qs q hm
      exact l.keep fun k e => (set k (by have := (l.lt k e).1; omega)).trans (kp k (l.lt k e).2 (fun e2 => h.ap q hm k e2 e))
    · rw [List.mem_singleton.1 hm]
      exact (hq.keep fun k e => (set k (by have := (hq.lt k e).1; omega)).trans (tk.2 k (hq.lt k e).2 (fun e2 => np k e2 e))).base h1
  · rcases List.mem_append.1 hq' with hm | hm
    · exact NB.told (h.ap q hm) (fun k e => Nat.lt_of_lt_of_le ((h.qs q hm).lt k e).2 hsz) ht
    · rw [List.mem_singleton.1 hm]
      exact NB.told np (fun k e => (hq.lt k e).2) ht
  · obtain ⟨row, hg, hrow⟩ := told_grown ht
    have c1 : Chg (fun k => k = w.heap.size + 2 ∨ W1.heap.size ≤ k) V w2 := Chg.of_below hb
    have c2 : Chg (fun k => k = w.heap.size + 2 ∨ W1.heap.size ≤ k) w2 w4 := Chg.grown hg fun k e => .inr (own_row h.row k (hrow k e))
    exact ((h.chg.trans' c1).trans' c2).trans' (Chg.set w4 (.inl rfl) 1 v')
/-- Actors that were lent: a row of their own, a marked one behind them; each one's numbers lent, too. -/
def LentA (B : Nat) (w : World) (a : Option Addr) (c : Nat) (As : List GA) : Prop := ∃ (b : Nat) (M : List (GA × Value)), a = some ⟨b, 0, none⟩ ∧ B ≤ b ∧ As.length + 1 ≤ c ∧ M.map Prod.fst = As ∧ w.ownsRow B 57 3 (.slice a (As.length + 1) c) (As.length + 1) (M.flatMap aP ++ aP markA) ∧ ∀ p ∈ M, LentQ B w p.2 p.1.params
theorem LentA.keep {B : Nat} {w w' : World} {a : Option Addr} {c : Nat} {As : List GA} (h : LentA B w a c As) (hk : ∀ k, B ≤ k → k < w.heap.size → w'.heap[k]? = w.heap[k]?) : LentA B w' a c As := by
  obtain ⟨b, M, h1, h2, h3, h4, h5, h6⟩ := h
  exact ⟨b, M, h1, h2, h3, h4, ownR_keep h5 fun k e => hk k (own_row h5 k e) (own_lt h5 k e), fun p hp => (h6 p hp).keep fun k e => hk k ((h6 p hp).lt k e).1 ((h6 p hp).lt k e).2⟩
theorem LentA.base {B B' : Nat} {w : World} {a : Option Addr} {c : Nat} {As : List GA} (h : LentA B w a c As) (hb : B' ≤ B) : LentA B' w a c As := by
  obtain ⟨b, M, h1, h2, h3, h4, h5, h6⟩ := h
  exact ⟨b, M, h1, Nat.le_trans hb h2, h3, h4, owns_mono h5 hb, fun p hp => (h6 p hp).base hb⟩
theorem LentA.gr {B : Nat} {w : World} {a : Option Addr} {c : Nat} {As : List GA} (h : LentA B w a c As) (ho : ∀ x ∈ As, x.tag ≤ 255 ∧ NumsOk x.params) : GrA w a As := by
  obtain ⟨b, M, rfl, -, -, h4, h5, h6⟩ := h
  have hl : M.length = As.length := by rw [← h4, List.length_map]
  rw [← hl] at h5
  have r := rowA_gr (n := M.length) (cp := c) (owns_head h5 (flat_len aP 3 aP_len M) (Nat.le_succ _)) (fun p hp => by
    have hx := ho p.1 (by rw [← h4]; exact List.mem_map_of_mem hp)
    obtain ⟨gq, e, hq⟩ := h6 p hp
    exact ⟨hx.1, _, _, e, hq.arg hx.2⟩)
  rw [h4] at r
  exact r
structure LtE (w W1 : World) (nm : List UInt8) (u1 u3 u4 v : Value) (M : List (GE × Value)) (wr : World) : Prop where
  ob : BlkA 31 (w.heap.size + 2) wr #[.string (str nm), u1, v, u3, u4]
  row : wr.ownsRow W1.heap.size 60 5 v M.length (M.flatMap eP)
  qs : ∀ p ∈ M, LentQ W1.heap.size wr p.2 p.1.start
  ap : ∀ p ∈ M, NB v p.2
  chg : Chg (fun k => k = w.heap.size + 2 ∨ W1.heap.size ≤ k) W1 wr
  hk : w.heap.size + 2 < W1.heap.size
theorem LtE.put {w W1 nm u1 u3 u4 v M} {V : World} (h : LtE w W1 nm u1 u3 u4 v M V) {w2 w4 : World} {p : GE × Value} {v' : Value} (hb : Below V.heap.size V w2) (hq : LentQ V.heap.size w2 p.2 p.1.start)
    (ho : w4.ownsRow W1.heap.size 60 5 v' (M.length + 1) (M.flatMap eP ++ eP p))
    (ht : (∃ g cap, v = .slice (some ⟨g, 0, none⟩) M.length cap ∧ v' = .slice (some ⟨g, 0, none⟩) (M.length + 1) cap ∧ w2.grownBy w4 (some g)) ∨ (∃ cap, v' = .slice (some ⟨w2.heap.size, 0, none⟩) (M.length + 1) cap ∧ w2.grownBy w4 none)) :
    LtE w W1 nm u1 u3 u4 v' (M ++ [p]) (w4.setCell ⟨w.heap.size + 2, 2, none⟩ v') ∧ BlkA 31 (w.heap.size + 2) w4 #[.string (str nm), u1, v, u3, u4] := by
  have hk := h.hk
  have h1 := h.chg.size
  have hsz := hb.size
  have tk := told_keep ht
  have kp : ∀ d, d < V.heap.size → v.ownBlock ≠ some d → w4.heap[d]? = V.heap[d]? := fun d hd hn => (tk.2 d (by omega) hn).trans (hb.block d hd)
  have lowr : ∀ d, d < W1.heap.size → v.ownBlock ≠ some d := fun d hd e => by have := own_row h.row d e; omega
  have b3 := h.ob.keep (kp _ (by omega) (lowr _ hk))
  have set : ∀ k, k ≠ w.heap.size + 2 → (w4.setCell ⟨w.heap.size + 2, 2, none⟩ v').heap[k]? = w4.heap[k]? := fun k hk => Below.heap_setCell w4 ⟨w.heap.size + 2, 2, none⟩ v' k hk
  have np : NB v p.2 := fun k e1 e2 => by have := own_lt h.row k e1; have := (hq.lt k e2).1; omega
  refine ⟨⟨b3.set 2 v', ?_, fun q hq' => ?_, fun q hq' => ?_, ?_, hk⟩, b3⟩
  · rw [flat_one, List.length_append]
    exact ownR_keep ho fun k e => set k (by have := own_row ho k e; omega)
  · rcases List.mem_append.1 hq' with hm | hm
    · have l := h.qs q hm
      exact l.keep fun k e => (set k (by have := (l.lt k e).1; omega)).trans (kp k (l.lt k e).2 (fun e2 => h.ap q hm k e2 e))
    · rw [List.mem_singleton.1 hm]
      exact (hq.keep fun k e => (set k (by have := (hq.lt k e).1; omega)).trans (tk.2 k (hq.lt k e).2 (fun e2 => np k e2 e))).base h1
  · rcases List.mem_append.1 hq' with hm | hm
    · exact NB.told (h.ap q hm) (fun k e => Nat.lt_of_lt_of_le ((h.qs q hm).lt k e).2 hsz) ht
    · rw [List.mem_singleton.1 hm]
      exact NB.told np (fun k e => (hq.lt k e).2) ht
  · obtain ⟨row, hg, hrow⟩ := told_grown ht
    have c1 : Chg (fun k => k = w.heap.size + 2 ∨ W1.heap.size ≤ k) V w2 := Chg.of_below hb
    have c2 : Chg (fun k => k = w.heap.size + 2 ∨ W1.heap.size ≤ k) w2 w4 := Chg.grown hg fun k e => .inr (own_row h.row k (hrow k e))
    exact ((h.chg.trans' c1).trans' c2).trans' (Chg.set w4 (.inl rfl) 2 v')
/-- Edges that were lent: a row of their own, a marked one behind them; each one's numbers lent, too. -/
def LentE (B : Nat) (w : World) (a : Option Addr) (c : Nat) (As : List GE) : Prop := ∃ (b : Nat) (M : List (GE × Value)), a = some ⟨b, 0, none⟩ ∧ B ≤ b ∧ As.length + 1 ≤ c ∧ M.map Prod.fst = As ∧ w.ownsRow B 60 5 (.slice a (As.length + 1) c) (As.length + 1) (M.flatMap eP ++ eP markE) ∧ ∀ p ∈ M, LentQ B w p.2 p.1.start
theorem LentE.keep {B : Nat} {w w' : World} {a : Option Addr} {c : Nat} {As : List GE} (h : LentE B w a c As) (hk : ∀ k, B ≤ k → k < w.heap.size → w'.heap[k]? = w.heap[k]?) : LentE B w' a c As := by
  obtain ⟨b, M, h1, h2, h3, h4, h5, h6⟩ := h
  exact ⟨b, M, h1, h2, h3, h4, ownR_keep h5 fun k e => hk k (own_row h5 k e) (own_lt h5 k e), fun p hp => (h6 p hp).keep fun k e => hk k ((h6 p hp).lt k e).1 ((h6 p hp).lt k e).2⟩
theorem LentE.base {B B' : Nat} {w : World} {a : Option Addr} {c : Nat} {As : List GE} (h : LentE B w a c As) (hb : B' ≤ B) : LentE B' w a c As := by
  obtain ⟨b, M, h1, h2, h3, h4, h5, h6⟩ := h
  exact ⟨b, M, h1, Nat.le_trans hb h2, h3, h4, owns_mono h5 hb, fun p hp => (h6 p hp).base hb⟩
theorem LentE.gr {B : Nat} {w : World} {a : Option Addr} {c : Nat} {As : List GE} (h : LentE B w a c As) (ho : ∀ x ∈ As, NumsOk x.start) : GrE w a As := by
  obtain ⟨b, M, rfl, -, -, h4, h5, h6⟩ := h
  have hl : M.length = As.length := by rw [← h4, List.length_map]
  rw [← hl] at h5
  have r := rowE_gr (n := M.length) (cp := c) (owns_head h5 (flat_len eP 5 eP_len M) (Nat.le_succ _)) (fun p hp => by
    have hx := ho p.1 (by rw [← h4]; exact List.mem_map_of_mem hp)
    obtain ⟨gq, e, hq⟩ := h6 p hp
    exact ⟨_, _, e, hq.arg hx⟩)
  rw [h4] at r
  exact r
theorem LentP.base {B B' : Nat} {w : World} {a : Option Addr} {c : Nat} {Ps : List GP} (h : LentP B w a c Ps) (hb : B' ≤ B) : LentP B' w a c Ps := by
  obtain ⟨b, h1, h2, h3, h4⟩ := h
  exact ⟨b, h1, Nat.le_trans hb h2, h3, owns_mono h4 hb⟩
/-- A graph that was lent. -/
structure LentG (B : Nat) (w : World) (x1 x2 x3 x4 : Option Addr) (c1 c2 c3 c4 : Nat) (g : GG) : Prop where
  a : LentA B w x1 c1 g.actors
  e : LentE B w x2 c2 g.edges
  i : LentP B w x3 c3 g.ins
  o : LentP B w x4 c4 g.outs
theorem LentG.keep {B : Nat} {w w' : World} {x1 x2 x3 x4 : Option Addr} {c1 c2 c3 c4 : Nat} {g : GG} (h : LentG B w x1 x2 x3 x4 c1 c2 c3 c4 g) (hk : ∀ k, B ≤ k → k < w.heap.size → w'.heap[k]? = w.heap[k]?) : LentG B w' x1 x2 x3 x4 c1 c2 c3 c4 g := ⟨h.a.keep hk, h.e.keep hk, h.i.keep hk, h.o.keep hk⟩
/-- What is told of a graph's numbers. -/
def NumsG (g : GG) : Prop := (∀ x ∈ g.actors, x.tag ≤ 255 ∧ NumsOk x.params) ∧ (∀ x ∈ g.edges, NumsOk x.start)
theorem GrG.nums {w : World} {a1 a2 a3 a4 : Option Addr} {g : GG} (h : GrG w a1 a2 a3 a4 g) : NumsG g := by
  refine ⟨fun x hx => ?_, fun x hx => ?_⟩
  · obtain ⟨k, hk, rfl⟩ := memA hx
    rcases h.A with e | ⟨b, off, -, hc⟩
    · rw [e] at hk; exact absurd hk (Nat.not_lt_zero _)
    · obtain ⟨-, -, h3, y, c, -, h5⟩ := hc k hk
      exact ⟨h3, h5.fits, h5.reach⟩
  · obtain ⟨k, hk, rfl⟩ := memE hx
    rcases h.E with e | ⟨b, off, -, hc⟩
    · rw [e] at hk; exact absurd hk (Nat.not_lt_zero _)
    · obtain ⟨-, -, -, -, y, c, -, h5⟩ := hc k hk
      exact ⟨h5.fits, h5.reach⟩
theorem LentG.gr {B : Nat} {w : World} {x1 x2 x3 x4 : Option Addr} {c1 c2 c3 c4 : Nat} {g : GG} (h : LentG B w x1 x2 x3 x4 c1 c2 c3 c4 g) (ho : NumsG g) (hl : Light g) : GrG w x1 x2 x3 x4 g :=
  ⟨h.a.gr ho.1, h.e.gr ho.2, h.i.at, h.o.at, Nat.le_trans hl.a (by decide), Nat.le_trans hl.e (by decide), Nat.le_trans hl.i (by decide), Nat.le_trans hl.o (by decide)⟩
/-- The boxes of what comes in and of what is answered. -/
structure LB (w : World) (gv : Array Value) (u : World) : Prop where
  i : BlkA 31 w.heap.size u gv
  r : BlkA 31 (w.heap.size + 1) u #[.string ⟨#[]⟩, .slice none 0 0, .slice none 0 0, .slice none 0 0, .slice none 0 0]
  bel : Below w.heap.size w u
theorem LB.below {w gv} {u u' : World} (h : LB w gv u) (hb : Below u.heap.size u u') : LB w gv u' := ⟨h.i.below hb, h.r.below hb, h.bel.trans (hb.mono h.bel.size)⟩
theorem LB.chg {w gv} {u u' : World} {N : Nat} (h : LB w gv u) (hc : Chg (fun k => k = w.heap.size + 2 ∨ N ≤ k) u u') (hN : w.heap.size + 2 < N) : LB w gv u' :=
  ⟨h.i.keep (hc.block _ h.i.lt (by omega)), h.r.keep (hc.block _ h.r.lt (by omega)), h.bel.trans (hc.below (L := w.heap.size) (fun k e => by omega) h.bel.size)⟩
theorem LB.set {w gv} {u : World} (h : LB w gv u) (f : Nat) (v : Value) : LB w gv (u.setCell ⟨w.heap.size + 2, f, none⟩ v) :=
  ⟨h.i.keep (Below.heap_setCell _ ⟨w.heap.size + 2, f, none⟩ _ _ (by show w.heap.size ≠ w.heap.size + 2; omega)), h.r.keep (Below.heap_setCell _ ⟨w.heap.size + 2, f, none⟩ _ _ (by show w.heap.size + 1 ≠ w.heap.size + 2; omega)), h.bel.setCell (p := ⟨w.heap.size + 2, f, none⟩) (Nat.le_add_right _ 2) _⟩
theorem str_eq (x y : List UInt8) : ((str x).toList == (str y).toList) = (x == y) := by rw [gstr_list, gstr_list]
theorem drewG (w : World) (q : Nat) : Below w.heap.size w (w.drewN q) := ⟨rfl, rfl, rfl, Nat.le_refl _, fun _ _ => rfl⟩
theorem sumG_mono (f : Nat → Nat) : ∀ {i n : Nat}, i ≤ n → sumG f i ≤ sumG f n
  | i, 0, h => by rw [show i = 0 by omega]; exact Nat.le_refl _
  | i, n + 1, h => by
    by_cases e : i = n + 1
    · rw [e]; exact Nat.le_refl _
    · exact Nat.le_trans (sumG_mono f (by omega)) (Nat.le_add_right _ _)
theorem and_falseG {a b c d : Int} (h : (a == b && c == d) = false) (e : b = a) : (d == c) = false := by
  subst e
  cases hq : (d == c) with
  | false => rfl
  | true =>
    have q : d = c := by simpa using hq
    subst q
    simp at h
def SlPG (ps : List Int) (u : World) (z : Value) : Prop := ∃ d c, z = .slice d ps.length c ∧ At u d ps
def OfPG (nI nO : Nat) (z : Value) : Prop := ∃ p1 q1 p2 q2, z = .tuple #[.slice p1 nI q1, .slice p2 nO q2, .int .i64 0]
def SnPG (n : Nat) (z : Value) : Prop := ∃ p q, z = .slice p n q
theorem SlPG.later {ps : List Int} {u u' : World} {z : Value} (h : SlPG ps u z) (hb : Below u.heap.size u u') : SlPG ps u' z := by
  obtain ⟨d, c, h1, h2⟩ := h
  exact ⟨d, c, h1, h2.below hb⟩
def IntE (zs : List Int) (w : World) (e : Ending) (w' : World) : Prop := ∃ a c, e = .returned (.slice a zs.length c) ∧ At w' a zs ∧ Below w.heap.size w w'
theorem slPG_of {zs : List Int} {w w' : World} {e : Ending} (h : IntE zs w e w') : ∃ v, e = .returned v ∧ Below w.heap.size w w' ∧ SlPG zs w' v := by
  obtain ⟨a, c, h1, h2, h3⟩ := h
  exact ⟨_, h1, h3, a, c, rfl, h2⟩
set_option maxRecDepth 100000 in
set_option maxHeartbeats 400000 in
theorem intsG_any (a : Option Addr) (zs : List Int) (cap : Nat) (w : World) (h : Arg w a zs.length cap zs) : Calls Try.prog 29 #[.slice a zs.length cap] w (IntE zs w) := by
  obtain ⟨i0, hi, hz0, hz1, hz2⟩ := info_parts Try.info3
  have ON := hiddenG (World.ownsRow_nil w w.heap.size 3 1)
  have HA := hiddenG h
  have hr := h.reach
  clear h
  cases a with
  | none =>
    obtain ⟨h1, rfl⟩ := HA.out.none rfl
    have e : zs = [] := List.eq_nil_of_length_eq_zero h1
    subst e
    go_enter Try.func29, Try.ntmps29
    go_wp2_with (at_builtin; refine wpList_append_own_none rfl _ _ 46 rfl w.heap.size 3 i0 1 Try.underlying46 hi _ 0 [] rfl ON.out rfl ?_)
    go_ret
    exact ⟨none, 0, rfl, .inl rfl, Below.refl _ _⟩
  | some ad =>
    go_enter Try.func29, Try.ntmps29
    go_wp2_with (at_builtin; refine wpList_append_own _ rfl _ _ 46 rfl w.heap.size 3 i0 (.int .i64 0) 1 8 Try.underlying46 hi hz0 hz1 hz2 rfl (by decide) _ 0 [] rfl ON.out ad zs.length cap (zs.map (Value.int .i64)) rfl (by simp) (lies_new HA.out.lies) (ints_oneCell _ _) (by unfold maxLen; omega) (by omega) (Nat.le_refl _) ?_; intro v' w1 hown hgrow _; have OW := hiddenG hown; have GW := hiddenG ((Below.refl w.heap.size w).grown hgrow (Nat.le_refl _) (fun k h => by cases h)); clear hown hgrow)
    go_ret
    have hown' : w1.ownsRow w.heap.size 3 1 v' zs.length (zs.map (Value.int .i64)) := by simpa using OW.out
    obtain ⟨a', cap', hv, -, hat', -, -, -⟩ := owns_at (n := zs.length) (zs := zs) hown'
    exact ⟨a', cap', by rw [← hv]; rfl, hat', GW.out⟩
set_option maxRecDepth 100000 in
set_option maxHeartbeats 16000000 in
theorem graphPorts_walk (g : GG) (a1 a2 a3 a4 : Option Addr) (c1 c2 c3 c4 : Nat) (w : World) (h : ArgG w a1 a2 a3 a4 c3 c4 g) :
    Calls Try.prog 6 #[.agg #[.string (str g.name), .slice a1 g.actors.length c1, .slice a2 g.edges.length c2, .slice a3 g.ins.length c3, .slice a4 g.outs.length c4]] w fun e w' => e = .returned (.bool true) ∧ Below w.heap.size w w' := by
  have ba := (Below.refl w.heap.size w).alloc (Nat.le_refl _) (.cells #[.string (str g.name), .slice a1 g.actors.length c1, .slice a2 g.edges.length c2, .slice a3 g.ins.length c3, .slice a4 g.outs.length c4] 31)
  have BA := hiddenG ba
  have X0 := hiddenG (blkA_new 31 w #[.string (str g.name), .slice a1 g.actors.length c1, .slice a2 g.edges.length c2, .slice a3 g.ins.length c3, .slice a4 g.outs.length c4])
  have HG := hiddenG (h.gr.below ba)
  have CK := hiddenG (check_any g a1 a2 a3 a4 c1 c2 c3 c4 _ (h.gr.below ba))
  have AW : Hid (∀ U, Calls Try.prog 15 #[] U fun e w' => e = .returned (.bool true) ∧ Below U.heap.size U w') := fun U => awake8 U
  have y0 := X0.out.cell (k := 0) rfl
  have y1 := X0.out.cell (k := 1) rfl
  have y2 := X0.out.cell (k := 2) rfl
  have y3 := X0.out.cell (k := 3) rfl
  have y4 := X0.out.cell (k := 4) rfl
  simp only [List.getElem_toArray, List.getElem_cons_zero, List.getElem_cons_succ] at y0 y1 y2 y3 y4
  clear ba h
  by_cases hc : (firstF g).code = 0
  · have hS := (sound_iff g).1 hc
    have HD := head_ok hS.head
    have PI := ports_in hS
    have PO := ports_out hS
    have NA := hiddenG (fun k i hk hi => names_apart hS (k := k) (i := i) hk hi)
    have EA := hiddenG (fun k i hk hi => edges_apart hS (k := k) (i := i) hk hi)
    have AO := hiddenG (fun i hi => (actor_ok (hS.acts i hi)).2.2)
    have EO := hiddenG (fun i hi => (edge_ok (hS.edges i hi)).1)
    have MI := hiddenG (fun i (hi : i ≤ g.actors.length) => sumG_mono (insN g) hi)
    have MO := hiddenG (fun i (hi : i ≤ g.actors.length) => sumG_mono (outsN g) hi)
    obtain ⟨-, hd1, hd2, hd3, hd4, hd5⟩ := HD
    rw [hc] at CK
    clear hS hc
    go_enter Try.func6, Try.ntmps6
    go_upto_region 1 with fail
    obtain ⟨nb, hnb⟩ : ∃ q, w.heap.size = q := ⟨_, rfl⟩
    have HNB := hiddenG hnb
    rw [hnb] at X0 y0 y1 y2 y3 y4 ⊢
    clear hnb
    generalize w.alloc (.cells #[.string (str g.name), .slice a1 g.actors.length c1, .slice a2 g.edges.length c2, .slice a3 g.ins.length c3, .slice a4 g.outs.length c4] 31) = W0 at *
    go_upto_region 6 with (go_at_call 26; (with_reducible refine CK.out.mono ?_); rintro e W1 ⟨rfl, b1⟩; have L1 := hiddenG (BA.out.trans (b1.mono BA.out.size)); have X1 := hiddenG (X0.out.below b1); have G1 := hiddenG (HG.out.below b1); clear b1 y0 y1 y2 y3 y4)
    clear CK BA X0 HG
    go_loopg [3, 4, 5] g.actors.length (fun gk u3 u4 u5 wr => ∃ i : Nat, i ≤ g.actors.length ∧ gk = g.actors.length - i ∧ u3 = .int .i64 ((sumG (insN g) i : Nat) : Int) ∧ u4 = .int .i64 ((sumG (outsN g) i : Nat) : Int) ∧ u5 = .int .i64 (i : Int) ∧ Below W1.heap.size W1 wr)
    case atStart => exact ⟨0, Nat.zero_le _, rfl, rfl, rfl, rfl, Below.refl _ _⟩
    case round =>
      obtain ⟨i, hi, rfl, rfl, rfl, rfl, hbr⟩ := hrel
      have BR := hiddenG hbr
      have Xr := hiddenG (X1.out.below hbr)
      have Gr := hiddenG (G1.out.below hbr)
      clear hbr
      have g1 := Xr.out.cell (k := 1) rfl
      simp only [List.getElem_toArray, List.getElem_cons_zero, List.getElem_cons_succ] at g1
      have m1 := MI.out i hi
      have m2 := MO.out i hi
      by_cases hlt : i < g.actors.length
      · have hki : (i : Int) < (g.actors.length : Int) := by omega
        rcases Gr.out.A with e | ⟨ab, ao, ea, hca⟩
        · rw [e] at hlt; exact absurd hlt (Nat.not_lt_zero _)
        obtain ⟨x0, x1, ht, px, pc, x2, x3⟩ := hca i hlt
        have ao1 := AO.out i hlt
        have m3 := MI.out (i + 1) hlt
        have m4 := MO.out (i + 1) hlt
        have S1 : Hid (sumG (insN g) (i + 1) = sumG (insN g) i + insN g i) := rfl
        have S2 : Hid (sumG (outsN g) (i + 1) = sumG (outsN g) i + outsN g i) := rfl
        rw [S1.out] at m3
        rw [S2.out] at m4
        have HI : (ofS (nthA g.actors i).tag (nthA g.actors i).params).1.length = insN g i := rfl
        have HO : (ofS (nthA g.actors i).tag (nthA g.actors i).params).2.1.length = outsN g i := rfl
        obtain ⟨tg, htg⟩ : ∃ q, (nthA g.actors i).tag = q := ⟨_, rfl⟩
        obtain ⟨ps, hps⟩ : ∃ q, (nthA g.actors i).params = q := ⟨_, rfl⟩
        obtain ⟨nI, hnI⟩ : ∃ q, insN g i = q := ⟨_, rfl⟩
        obtain ⟨nO, hnO⟩ : ∃ q, outsN g i = q := ⟨_, rfl⟩
        rw [htg, hps, hnI] at HI
        rw [htg, hps, hnO] at HO
        rw [htg, hps] at ao1
        rw [htg] at x1 ht
        rw [hps] at x2 x3
        rw [hnI] at S1 m3
        rw [hnO] at S2 m4
        have IN : Hid (∀ U, Below wr.heap.size wr U → Calls Try.prog 29 #[.slice px ps.length pc] U (IntE ps U)) := fun U hU => intsG_any px ps pc U (x3.below hU)
        have OF : Hid (∀ U d9 k9, At U d9 ps → Calls Try.prog 28 #[.int .u8 (tg : Int), .slice d9 ps.length k9] U fun e w' => ∃ v, e = .returned v ∧ Below U.heap.size U w' ∧ OfPG nI nO v) := fun U d9 k9 h9 => (shapeOf_any tg d9 ps ps.length k9 U ht rfl h9).mono fun e w' hh => by
          unfold OfEnd at hh
          obtain ⟨p1, q1, p2, q2, he, -, -, -, hb⟩ := hh
          rw [HI, HO, ao1] at he
          exact ⟨_, he, hb, p1, q1, p2, q2, rfl⟩
        subst ea
        clear htg hps hnI hnO HI HO ao1 ht x3
        have HCA := hiddenG hca
        clear hca x0
        go_upto_region 8 with fail
        refine wp_region_gen [] (fun d_ i_ u z => match i_ with
            | 0 => z = .pointer (some ⟨nb, 1, none⟩)
            | 1 => z = .slice (some ⟨ab, ao, none⟩) g.actors.length c1
            | 2 => z = .int .i64 (i : Int)
            | 3 => z = .pointer (some ⟨ab, ao + i * 3, none⟩)
            | 4 => z = .pointer (some ⟨ab, ao + i * 3 + 1, none⟩)
            | 5 => z = .int .u8 (tg : Int)
            | 6 => z = .pointer (some ⟨nb, 1, none⟩)
            | 7 => z = .slice (some ⟨ab, ao, none⟩) g.actors.length c1
            | 8 => z = .int .i64 (i : Int)
            | 9 => z = .pointer (some ⟨ab, ao + i * 3, none⟩)
            | 10 => z = .pointer (some ⟨ab, ao + i * 3 + 2, none⟩)
            | 11 => z = .slice px ps.length pc
            | 12 => SlPG ps u z
            | 13 => OfPG nI nO z
            | 14 => OfPG nI nO z
            | 15 => SnPG nI z
            | 16 => SnPG nO z
            | 17 => z = .int .i64 0
            | 18 => SnPG nI z
            | 19 => SnPG nO z
            | 20 => z = .int .i64 0
            | _ => True) (fun d_ u => Below wr.heap.size wr u) (by kernel_rfl) (by kernel_rfl) (by kernel_rfl) ?_ ?_ ?_ ?_ ?_ ?_ (by kernel_rfl)
        · intro d_ i_ w v w' h hb
          match i_, h with
          | 0, h => exact h
          | 1, h => exact h
          | 2, h => exact h
          | 3, h => exact h
          | 4, h => exact h
          | 5, h => exact h
          | 6, h => exact h
          | 7, h => exact h
          | 8, h => exact h
          | 9, h => exact h
          | 10, h => exact h
          | 11, h => exact h
          | 12, h => exact h.later hb
          | 13, h => exact h
          | 14, h => exact h
          | 15, h => exact h
          | 16, h => exact h
          | 17, h => exact h
          | 18, h => exact h
          | 19, h => exact h
          | 20, h => exact h
          | _ + 21, _ => trivial
        · intro d_ u u' h hb
          exact h.trans (hb.mono h.size)
        · exact Below.refl _ _
        · intro d_ i_ o ρ w' hm ho hf hg hC hcs hfs hfr hdep
          match i_, hm, ho, hf, hg, hfr, hdep with
          | 0, _, ho, hf, hg, hfr, hdep =>
            simp only [gTA, gCZ, gSI] at ho
            subst ho
            refine ⟨fun _ => ?_, fun hw => absurd (show true = false from hw) (by decide)⟩
            have ts : ρ (.tmp 1) = .pointer (some ⟨nb, 0, none⟩) := hfr 1 (by kernel_rfl)
            simp [go_sem, ts]
            exact ⟨Below.refl _ _, rfl⟩
          | 1, _, ho, hf, hg, hfr, hdep =>
            simp only [gTA, gCZ, gCS, gSI] at ho
            subst ho
            refine ⟨fun _ => ?_, fun hw => absurd (show true = false from hw) (by decide)⟩
            have cc : w'.cell? ⟨nb, 1, none⟩ = some (.slice (some ⟨ab, ao, none⟩) g.actors.length c1) := cellG hC g1
            have d0 : ρ (.tmp 26) = .pointer (some ⟨nb, 1, none⟩) := hdep 0 26 (by kernel_rfl) (by kernel_rfl)
            simp [go_sem, d0, cc]
            exact ⟨Below.refl _ _, rfl⟩
          | 2, _, ho, hf, hg, hfr, hdep =>
            simp only [gTA, gCZ, gCS, gSI] at ho
            subst ho
            refine ⟨fun _ => ?_, fun hw => absurd (show true = false from hw) (by decide)⟩
            have ts : ρ (.tmp 5) = .int .i64 (i : Int) := hfr 5 (by kernel_rfl)
            simp [go_sem, ts]
            exact ⟨Below.refl _ _, rfl⟩
          | 3, _, ho, hf, hg, hfr, hdep =>
            simp only [gTA, gCZ, gCS, gSI] at ho
            subst ho
            refine ⟨fun _ => ?_, fun hw => absurd (show true = false from hw) (by decide)⟩
            have d0 : ρ (.tmp 27) = .slice (some ⟨ab, ao, none⟩) g.actors.length c1 := hdep 1 27 (by kernel_rfl) (by kernel_rfl)
            have d1 : ρ (.tmp 28) = .int .i64 (i : Int) := hdep 2 28 (by kernel_rfl) (by kernel_rfl)
            simp [go_sem, d0, d1, hlt]
            exact ⟨Below.refl _ _, rfl⟩
          | 4, _, ho, hf, hg, hfr, hdep =>
            simp only [gTA, gCZ, gCS, gSI] at ho
            subst ho
            refine ⟨fun _ => ?_, fun hw => absurd (show true = false from hw) (by decide)⟩
            have d0 : ρ (.tmp 29) = .pointer (some ⟨ab, ao + i * 3, none⟩) := hdep 3 29 (by kernel_rfl) (by kernel_rfl)
            simp [go_sem, d0]
            exact ⟨Below.refl _ _, rfl⟩
          | 5, _, ho, hf, hg, hfr, hdep =>
            simp only [gTA, gCZ, gCS, gSI] at ho
            subst ho
            refine ⟨fun _ => ?_, fun hw => absurd (show true = false from hw) (by decide)⟩
            have cc := cellG hC x1
            have d0 : ρ (.tmp 30) = .pointer (some ⟨ab, ao + i * 3 + 1, none⟩) := hdep 4 30 (by kernel_rfl) (by kernel_rfl)
            simp [go_sem, d0, cc]
            exact ⟨Below.refl _ _, rfl⟩
          | 6, _, ho, hf, hg, hfr, hdep =>
            simp only [gTA, gCZ, gCS, gSI] at ho
            subst ho
            refine ⟨fun _ => ?_, fun hw => absurd (show true = false from hw) (by decide)⟩
            have ts : ρ (.tmp 1) = .pointer (some ⟨nb, 0, none⟩) := hfr 1 (by kernel_rfl)
            simp [go_sem, ts]
            exact ⟨Below.refl _ _, rfl⟩
          | 7, _, ho, hf, hg, hfr, hdep =>
            simp only [gTA, gCZ, gCS, gSI] at ho
            subst ho
            refine ⟨fun _ => ?_, fun hw => absurd (show true = false from hw) (by decide)⟩
            have cc : w'.cell? ⟨nb, 1, none⟩ = some (.slice (some ⟨ab, ao, none⟩) g.actors.length c1) := cellG hC g1
            have d0 : ρ (.tmp 32) = .pointer (some ⟨nb, 1, none⟩) := hdep 6 32 (by kernel_rfl) (by kernel_rfl)
            simp [go_sem, d0, cc]
            exact ⟨Below.refl _ _, rfl⟩
          | 8, _, ho, hf, hg, hfr, hdep =>
            simp only [gTA, gCZ, gCS, gSI] at ho
            subst ho
            refine ⟨fun _ => ?_, fun hw => absurd (show true = false from hw) (by decide)⟩
            have ts : ρ (.tmp 5) = .int .i64 (i : Int) := hfr 5 (by kernel_rfl)
            simp [go_sem, ts]
            exact ⟨Below.refl _ _, rfl⟩
          | 9, _, ho, hf, hg, hfr, hdep =>
            simp only [gTA, gCZ, gCS, gSI] at ho
            subst ho
            refine ⟨fun _ => ?_, fun hw => absurd (show true = false from hw) (by decide)⟩
            have d0 : ρ (.tmp 33) = .slice (some ⟨ab, ao, none⟩) g.actors.length c1 := hdep 7 33 (by kernel_rfl) (by kernel_rfl)
            have d1 : ρ (.tmp 34) = .int .i64 (i : Int) := hdep 8 34 (by kernel_rfl) (by kernel_rfl)
            simp [go_sem, d0, d1, hlt]
            exact ⟨Below.refl _ _, rfl⟩
          | 10, _, ho, hf, hg, hfr, hdep =>
            simp only [gTA, gCZ, gCS, gSI] at ho
            subst ho
            refine ⟨fun _ => ?_, fun hw => absurd (show true = false from hw) (by decide)⟩
            have d0 : ρ (.tmp 35) = .pointer (some ⟨ab, ao + i * 3, none⟩) := hdep 9 35 (by kernel_rfl) (by kernel_rfl)
            simp [go_sem, d0]
            exact ⟨Below.refl _ _, rfl⟩
          | 11, _, ho, hf, hg, hfr, hdep =>
            simp only [gTA, gCZ, gCS, gSI] at ho
            subst ho
            refine ⟨fun _ => ?_, fun hw => absurd (show true = false from hw) (by decide)⟩
            have cc := cellG hC x2
            have d0 : ρ (.tmp 36) = .pointer (some ⟨ab, ao + i * 3 + 2, none⟩) := hdep 10 36 (by kernel_rfl) (by kernel_rfl)
            simp [go_sem, d0, cc]
            exact ⟨Below.refl _ _, rfl⟩
          | 12, _, ho, hf, hg, hfr, hdep =>
            simp only [gTA, gCZ, gCS, gSI] at ho
            subst ho
            refine ⟨fun _ => ?_, fun hw => absurd (show true = false from hw) (by decide)⟩
            have t0 : ρ (.tmp 37) = .slice px ps.length pc := hdep 11 37 (by kernel_rfl) (by kernel_rfl)
            simp [go_sem, t0, hfs]
            exact ⟨rfl, (IN.out w' hC).mono fun e' w'' hh => slPG_of hh⟩
          | 13, _, ho, hf, hg, hfr, hdep =>
            simp only [gTA, gCZ, gCS, gSI] at ho
            subst ho
            refine ⟨fun _ => ?_, fun hw => absurd (show true = false from hw) (by decide)⟩
            have t1 : ρ (.tmp 31) = .int .u8 (tg : Int) := hdep 5 31 (by kernel_rfl) (by kernel_rfl)
            have t0 : SlPG ps w' (ρ (.tmp 38)) := hdep 12 38 (by kernel_rfl) (by kernel_rfl)
            obtain ⟨d9, k9, q0, q1⟩ := t0
            simp [go_sem, t1, q0, hfs]
            exact ⟨rfl, (OF.out w' d9 k9 q1).mono fun e' w'' hh => hh⟩
          | 14, _, ho, hf, hg, hfr, hdep =>
            simp only [gTA, gCZ, gCS, gSI] at ho
            subst ho
            refine ⟨fun _ => ?_, fun hw => absurd (show true = false from hw) (by decide)⟩
            have t0 : OfPG nI nO (ρ (.tmp 39)) := hdep 13 39 (by kernel_rfl) (by kernel_rfl)
            obtain ⟨p1, q1, p2, q2, q0⟩ := t0
            simp [go_sem, q0]
            exact ⟨Below.refl _ _, p1, q1, p2, q2, rfl⟩
          | 15, _, ho, hf, hg, hfr, hdep =>
            simp only [gTA, gCZ, gCS, gSI] at ho
            subst ho
            refine ⟨fun _ => ?_, fun hw => absurd (show true = false from hw) (by decide)⟩
            have t0 : OfPG nI nO (ρ (.tmp 25)) := hdep 14 25 (by kernel_rfl) (by kernel_rfl)
            obtain ⟨p1, q1, p2, q2, q0⟩ := t0
            simp [go_sem, q0]
            exact ⟨Below.refl _ _, p1, q1, rfl⟩
          | 16, _, ho, hf, hg, hfr, hdep =>
            simp only [gTA, gCZ, gCS, gSI] at ho
            subst ho
            refine ⟨fun _ => ?_, fun hw => absurd (show true = false from hw) (by decide)⟩
            have t0 : OfPG nI nO (ρ (.tmp 25)) := hdep 14 25 (by kernel_rfl) (by kernel_rfl)
            obtain ⟨p1, q1, p2, q2, q0⟩ := t0
            simp [go_sem, q0]
            exact ⟨Below.refl _ _, p2, q2, rfl⟩
          | 17, _, ho, hf, hg, hfr, hdep =>
            simp only [gTA, gCZ, gCS, gSI] at ho
            subst ho
            refine ⟨fun _ => ?_, fun hw => absurd (show true = false from hw) (by decide)⟩
            have t0 : OfPG nI nO (ρ (.tmp 25)) := hdep 14 25 (by kernel_rfl) (by kernel_rfl)
            obtain ⟨p1, q1, p2, q2, q0⟩ := t0
            simp [go_sem, q0]
            exact ⟨Below.refl _ _, rfl⟩
          | 18, _, ho, hf, hg, hfr, hdep =>
            simp only [gTA, gCZ, gCS, gSI] at ho
            subst ho
            refine ⟨fun _ => ?_, fun hw => absurd (show true = false from hw) (by decide)⟩
            have t0 : SnPG nI (ρ (.tmp 40)) := hdep 15 40 (by kernel_rfl) (by kernel_rfl)
            obtain ⟨p1, q1, q0⟩ := t0
            simp [go_sem, q0]
            exact ⟨Below.refl _ _, p1, q1, rfl⟩
          | 19, _, ho, hf, hg, hfr, hdep =>
            simp only [gTA, gCZ, gCS, gSI] at ho
            subst ho
            refine ⟨fun _ => ?_, fun hw => absurd (show true = false from hw) (by decide)⟩
            have t0 : SnPG nO (ρ (.tmp 41)) := hdep 16 41 (by kernel_rfl) (by kernel_rfl)
            obtain ⟨p1, q1, q0⟩ := t0
            simp [go_sem, q0]
            exact ⟨Below.refl _ _, p1, q1, rfl⟩
          | 20, _, ho, hf, hg, hfr, hdep =>
            simp only [gTA, gCZ, gCS, gSI] at ho
            subst ho
            refine ⟨fun _ => ?_, fun hw => absurd (show true = false from hw) (by decide)⟩
            have d0 : ρ (.tmp 42) = .int .i64 0 := hdep 17 42 (by kernel_rfl) (by kernel_rfl)
            simp [go_sem, d0]
            exact ⟨Below.refl _ _, rfl⟩
          | n + 21, _, ho, _, _, _, _ => simp at ho
        · intro d_ i_ o ρ w' hm ho h0 hf hg hC hcs hfs hfr hdep
          exact absurd hm (by simp)
        · intro U8 W8 hC8 hS
          obtain ⟨p1, q1, e18⟩ : SnPG nI (U8 18) := hS 18 (by decide) (by intro h; cases h)
          obtain ⟨p2, q2, e19⟩ : SnPG nO (U8 19) := hS 19 (by decide) (by intro h; cases h)
          have e20 : U8 20 = .int .i64 0 := hS 20 (by decide) (by intro h; cases h)
          simp only [puts, e18, e19, e20]
          simp only [Act.put, List.setIfInBounds_toArray, List.set_cons_zero, List.set_cons_succ]
          clear hS e18 e19 e20
          have B8 := hiddenG (BR.out.trans (hC8.mono BR.out.size))
          have G8 := hiddenG (Gr.out.below hC8)
          have X8 := hiddenG (Xr.out.below hC8)
          clear hC8 x1 x2 g1 HCA IN OF BR Xr Gr
          have w1 : sumG (insN g) i + nI ≤ 1000 := by omega
          have w2 : sumG (outsN g) i + nO ≤ 1000 := by omega
          go_upto_region 14 with fail
          go_loopg [9] i (fun gk u9 wr2 => ∃ k : Nat, k ≤ i ∧ gk = i - k ∧ u9 = .int .i64 (k : Int) ∧ Below W8.heap.size W8 wr2)
          case atStart => exact ⟨0, Nat.zero_le _, rfl, rfl, Below.refl _ _⟩
          case round =>
            obtain ⟨k, hk, rfl, rfl, hb2⟩ := hrel
            have B2 := hiddenG hb2
            have Xq := hiddenG (X8.out.below hb2)
            have Gq := hiddenG (G8.out.below hb2)
            clear hb2
            have g1 := Xq.out.cell (k := 1) rfl
            simp only [List.getElem_toArray, List.getElem_cons_zero, List.getElem_cons_succ] at g1
            by_cases hkl : k < i
            · have hkI : (k : Int) < (i : Int) := by omega
              have hkn : (k : Int) < (g.actors.length : Int) := by omega
              rcases Gq.out.A with e | ⟨ab', ao', ea', hca'⟩
              · rw [e] at hlt; exact absurd hlt (Nat.not_lt_zero _)
              cases ea'
              have n1 := (hca' k (by omega)).1
              have n2 := (hca' i hlt).1
              have hst : ((str (nthA g.actors k).name).toList == (str (nthA g.actors i).name).toList) = false := by rw [str_eq]; exact NA.out k i hkl hlt
              clear hca'
              generalize str (nthA g.actors k).name = s1 at *
              generalize str (nthA g.actors i).name = s2 at *
              go_upto_region 16 with fail
              go_quiet (fail)
              have B9 := hiddenG (B2.out.trans ((drewG wr nq).mono B2.out.size))
              clear n1 n2 g1 Xq Gq B2 hst
              generalize wr.drewN nq = W9 at *
              go_wp2
              go_roundg (i - (k + 1))
              case measure => omega
              case rel => exact ⟨k + 1, by omega, rfl, by go_num, B9.out⟩
            · have hkI : ¬ (k : Int) < (i : Int) := by omega
              have B9 := hiddenG (B8.out.trans (B2.out.mono B8.out.size))
              clear Xq Gq B2 g1
              go_wp2
              go_roundg (g.actors.length - (i + 1))
              case measure => omega
              case rel => exact ⟨i + 1, by omega, rfl, by rw [S1.out]; go_num, by rw [S2.out]; go_num, by go_num, B9.out⟩
      · have ek : i = g.actors.length := by omega
        have hki : ¬ (i : Int) < (g.actors.length : Int) := by omega
        have g2 := Xr.out.cell (k := 2) rfl
        have g3 := Xr.out.cell (k := 3) rfl
        have g4 := Xr.out.cell (k := 4) rfl
        simp only [List.getElem_toArray, List.getElem_cons_zero, List.getElem_cons_succ] at g2 g3 g4
        rw [show sumG (insN g) i = g.edges.length + g.ins.length by rw [ek, PI], show sumG (outsN g) i = g.edges.length + g.outs.length by rw [ek, PO]]
        have qI : (((g.edges.length : Int) + (g.ins.length : Int)) != (((g.edges.length + g.ins.length : Nat)) : Int)) = false := by simp
        have qO : (((g.edges.length : Int) + (g.outs.length : Int)) != (((g.edges.length + g.outs.length : Nat)) : Int)) = false := by simp
        clear ek m1 m2
        obtain ⟨W2, hW2⟩ : ∃ q, wr = q := ⟨_, rfl⟩
        rw [hW2] at BR Xr Gr g1 g2 g3 g4 ⊢
        clear hW2
        go_upto_region 21 with fail
        clear qI qO g1 g2 g3 g4
        go_loopg [10] g.edges.length (fun gk u10 wr => ∃ q : Nat, q ≤ g.edges.length ∧ gk = g.edges.length - q ∧ u10 = .int .i64 (q : Int) ∧ Below W2.heap.size W2 wr)
        case atStart => exact ⟨0, Nat.zero_le _, rfl, rfl, Below.refl _ _⟩
        case round =>
          obtain ⟨q, hq, rfl, rfl, hbq⟩ := hrel
          have B3 := hiddenG hbq
          have X3 := hiddenG (Xr.out.below hbq)
          have G3 := hiddenG (Gr.out.below hbq)
          clear hbq
          have g1 := X3.out.cell (k := 1) rfl
          have g2 := X3.out.cell (k := 2) rfl
          simp only [List.getElem_toArray, List.getElem_cons_zero, List.getElem_cons_succ] at g1 g2
          by_cases hql : q < g.edges.length
          · have hqI : (q : Int) < (g.edges.length : Int) := by omega
            rcases G3.out.E with e | ⟨eb, eo, ee, hce⟩
            · rw [e] at hql; exact absurd hql (Nat.not_lt_zero _)
            obtain ⟨e0, e1, e2, e3, xs, cx, e4, -⟩ := hce q hql
            have eok := EO.out q hql
            have EAq := hiddenG (fun k (hk : k < q) => EA.out k q hk hql)
            obtain ⟨f0, f1, fp0, -, t0, t1, tp0, -, st⟩ := eok
            subst ee
            clear hce
            generalize nthE g.edges q = ed at *
            obtain ⟨xf, xfp, xt, xtp, xst⟩ := ed
            simp only at e0 e1 e2 e3 e4 f0 f1 fp0 t0 t1 tp0 st EAq
            go_upto_region 24 with fail
            have bc := (Below.refl wr.heap.size wr).alloc (Nat.le_refl _) (.cells #[.int .i64 xf, .int .i64 xfp, .int .i64 xt, .int .i64 xtp, .slice xs xst.length cx] 60)
            have XE := hiddenG (blkA_new 60 wr #[.int .i64 xf, .int .i64 xfp, .int .i64 xt, .int .i64 xtp, .slice xs xst.length cx])
            have B4 := hiddenG (B3.out.trans (bc.mono B3.out.size))
            have X4 := hiddenG (X3.out.below bc)
            have G4 := hiddenG (G3.out.below bc)
            obtain ⟨xb, hxb⟩ : ∃ q, wr.heap.size = q := ⟨_, rfl⟩
            rw [hxb] at XE ⊢
            generalize wr.alloc (.cells #[.int .i64 xf, .int .i64 xfp, .int .i64 xt, .int .i64 xtp, .slice xs xst.length cx] 60) = V1 at *
            clear bc hxb e0 e1 e2 e3 e4 g1 g2 B3 X3 G3
            have x0 := XE.out.cell (k := 0) rfl
            have x1 := XE.out.cell (k := 1) rfl
            have x2 := XE.out.cell (k := 2) rfl
            have x3 := XE.out.cell (k := 3) rfl
            have x4 := XE.out.cell (k := 4) rfl
            have g1 := X4.out.cell (k := 1) rfl
            simp only [List.getElem_toArray, List.getElem_cons_zero, List.getElem_cons_succ] at x0 x1 x2 x3 x4 g1
            have h0 : ¬ xf < 0 := by omega
            have h1 : ¬ (g.actors.length : Int) ≤ xf := by omega
            have h2 : ¬ xt < 0 := by omega
            have h3 : ¬ (g.actors.length : Int) ≤ xt := by omega
            have h4 : ¬ xfp < 0 := by omega
            have h5 : ¬ xtp < 0 := by omega
            have h6 : ¬ (256 : Int) < (xst.length : Int) := by omega
            go_upto_region 27 with fail
            clear h0 h1 h2 h3 h4 h5 h6 g1 x0 x1 x2 x3 x4
            go_loopg [12] q (fun gk u12 wr2 => ∃ k : Nat, k ≤ q ∧ gk = q - k ∧ u12 = .int .i64 (k : Int) ∧ Below V1.heap.size V1 wr2)
            case atStart => exact ⟨0, Nat.zero_le _, rfl, rfl, Below.refl _ _⟩
            case round =>
              obtain ⟨k, hk, rfl, rfl, hb5⟩ := hrel
              have B5 := hiddenG hb5
              have X5 := hiddenG (X4.out.below hb5)
              have G5 := hiddenG (G4.out.below hb5)
              have XE5 := hiddenG (XE.out.below hb5)
              clear hb5
              by_cases hkl : k < q
              · have hkI : (k : Int) < (q : Int) := by omega
                have hkn : (k : Int) < (g.edges.length : Int) := by omega
                have g2 := X5.out.cell (k := 2) rfl
                simp only [List.getElem_toArray, List.getElem_cons_zero, List.getElem_cons_succ] at g2
                rcases G5.out.E with e | ⟨eb', eo', ee', hce'⟩
                · rw [e] at hql; exact absurd hql (Nat.not_lt_zero _)
                cases ee'
                obtain ⟨e0, e1, e2, e3, ys, cy, e4, -⟩ := hce' k (by omega)
                have EAF := EAq.out k hkl
                clear hce'
                generalize nthE g.edges k = ed at *
                obtain ⟨yf, yfp, yt, ytp, yst⟩ := ed
                simp only at e0 e1 e2 e3 e4 EAF
                go_upto_region 30 with fail
                have bc := (Below.refl wr.heap.size wr).alloc (Nat.le_refl _) (.cells #[.int .i64 yf, .int .i64 yfp, .int .i64 yt, .int .i64 ytp, .slice ys yst.length cy] 60)
                have YE := hiddenG (blkA_new 60 wr #[.int .i64 yf, .int .i64 yfp, .int .i64 yt, .int .i64 ytp, .slice ys yst.length cy])
                have B9 := hiddenG (B5.out.trans (bc.mono B5.out.size))
                have XE6 := hiddenG (XE5.out.below bc)
                obtain ⟨yb, hyb⟩ : ∃ q, wr.heap.size = q := ⟨_, rfl⟩
                rw [hyb] at YE ⊢
                generalize wr.alloc (.cells #[.int .i64 yf, .int .i64 yfp, .int .i64 yt, .int .i64 ytp, .slice ys yst.length cy] 60) = V2 at *
                clear bc hyb e0 e1 e2 e3 e4 g2 B5 X5 G5 XE5
                have x0 := XE6.out.cell (k := 0) rfl
                have x1 := XE6.out.cell (k := 1) rfl
                have x2 := XE6.out.cell (k := 2) rfl
                have x3 := XE6.out.cell (k := 3) rfl
                have z0 := YE.out.cell (k := 0) rfl
                have z1 := YE.out.cell (k := 1) rfl
                have z2 := YE.out.cell (k := 2) rfl
                have z3 := YE.out.cell (k := 3) rfl
                simp only [List.getElem_toArray, List.getElem_cons_zero, List.getElem_cons_succ] at x0 x1 x2 x3 z0 z1 z2 z3
                by_cases hF : xf = yf
                · have hb1 : (xf == yf) = true := by simpa using hF
                  have hb2 : (xfp == yfp) = false := and_falseG EAF.1 hF
                  by_cases hT : xt = yt
                  · have hb3 : (xt == yt) = true := by simpa using hT
                    have hb4 : (xtp == ytp) = false := and_falseG EAF.2 hT
                    clear hF hT EAF
                    go_wp2
                    go_roundg (q - (k + 1))
                    case measure => omega
                    case rel => exact ⟨k + 1, by omega, rfl, by go_num, B9.out⟩
                  · have hb3 : (xt == yt) = false := by simpa using hT
                    clear hF hT EAF
                    go_wp2
                    go_roundg (q - (k + 1))
                    case measure => omega
                    case rel => exact ⟨k + 1, by omega, rfl, by go_num, B9.out⟩
                · have hb1 : (xf == yf) = false := by simpa using hF
                  by_cases hT : xt = yt
                  · have hb3 : (xt == yt) = true := by simpa using hT
                    have hb4 : (xtp == ytp) = false := and_falseG EAF.2 hT
                    clear hF hT EAF
                    go_wp2
                    go_roundg (q - (k + 1))
                    case measure => omega
                    case rel => exact ⟨k + 1, by omega, rfl, by go_num, B9.out⟩
                  · have hb3 : (xt == yt) = false := by simpa using hT
                    clear hF hT EAF
                    go_wp2
                    go_roundg (q - (k + 1))
                    case measure => omega
                    case rel => exact ⟨k + 1, by omega, rfl, by go_num, B9.out⟩
              · have hkI : ¬ (k : Int) < (q : Int) := by omega
                have B9 := hiddenG (B4.out.trans (B5.out.mono B4.out.size))
                clear X5 G5 XE5 B5
                go_wp2
                go_roundg (g.edges.length - (q + 1))
                case measure => omega
                case rel => exact ⟨q + 1, by omega, rfl, by go_num, B9.out⟩
          · have hqI : ¬ (q : Int) < (g.edges.length : Int) := by omega
            have L3 := hiddenG (L1.out.trans ((BR.out.trans (B3.out.mono BR.out.size)).mono L1.out.size))
            have l1 : (1 : Int) ≤ (g.actors.length : Int) := by omega
            have l2 : (g.actors.length : Int) ≤ 32 := by omega
            have l3 : (g.edges.length : Int) ≤ 96 := by omega
            clear B3 G3
            go_wp2_with (go_at_call 15; (with_reducible refine (AW.out _).mono ?_); rintro e V9 ⟨rfl, v9⟩; have M9 := hiddenG (L3.out.trans (v9.mono L3.out.size)); have X9 := hiddenG (X3.out.below v9); have g1 := X9.out.cell (k := 1) rfl; have g2 := X9.out.cell (k := 2) rfl; simp only [List.getElem_toArray, List.getElem_cons_zero, List.getElem_cons_succ] at g1 g2; clear v9)
            go_ret
            exact ⟨rfl, M9.out⟩
  · have hcb : ((firstF g).code != 0) = true := by simpa using hc
    clear hc HG
    generalize (firstF g).code = cd at *
    go_enter Try.func6, Try.ntmps6
    go_upto_region 1 with fail
    generalize w.alloc (.cells #[.string (str g.name), .slice a1 g.actors.length c1, .slice a2 g.edges.length c2, .slice a3 g.ins.length c3, .slice a4 g.outs.length c4] 31) = W0 at *
    go_wp2_with (first
      | (go_at_call 15; (with_reducible refine (AW.out _).mono ?_); rintro e V9 ⟨rfl, v9⟩; have M9 := hiddenG (L1.out.trans (v9.mono L1.out.size)); clear v9)
      | (go_at_call 26; (with_reducible refine CK.out.mono ?_); rintro e W1 ⟨rfl, b1⟩; have L1 := hiddenG (BA.out.trans (b1.mono BA.out.size)); clear b1))
    go_ret
    exact ⟨rfl, M9.out⟩
end Go.Proofs.Ytbpoifjlembcbaa

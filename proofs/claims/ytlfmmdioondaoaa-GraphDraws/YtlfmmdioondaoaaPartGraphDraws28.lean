/- Texts of one chain, laid one behind the other. -/
import Derived.Test.YtlfmmdioondaoaaPartGraphDraws27
import Derived.Deep.SlicePairs
import Derived.SizedLaws
import Derived.Test.YtlfmmdioondaoaaPartGraphDraws7
import Derived.Test.YtlfmmdioondaoaaPartGraphDraws10
namespace Go.Proofs.Ytlfmmdioondaoaa
open Go.ChangeShapes Go.WideShapes Go.ChangeAt Go.RowKit
theorem Try.cellsGA : Try.prog.cellsOf 59 = 3 := by kernel_rfl
theorem Try.cellsGE : Try.prog.cellsOf 54 = 5 := by kernel_rfl
theorem Try.cellsGP : Try.prog.cellsOf 56 = 3 := by kernel_rfl
theorem Try.cellsGG : Try.prog.cellsOf 31 = 5 := by kernel_rfl
theorem Try.cellsSA : Try.prog.cellsOf 27 = 1 := by kernel_rfl
theorem Try.cellsSE : Try.prog.cellsOf 28 = 1 := by kernel_rfl
theorem Try.cellsSP : Try.prog.cellsOf 29 = 1 := by kernel_rfl
theorem Try.cellsSL : Try.prog.cellsOf 46 = 1 := by kernel_rfl
theorem Try.cellsTG : Try.prog.cellsOf 57 = 1 := by kernel_rfl
theorem Try.cells9G : Try.prog.cellsOf 9 = 1 := by kernel_rfl
theorem Try.cells3G : Try.prog.cellsOf 3 = 1 := by kernel_rfl
theorem Try.bytesGA : Try.prog.bytesOf 59 = 48 := by kernel_rfl
theorem Try.bytesGE : Try.prog.bytesOf 54 = 56 := by kernel_rfl
theorem Try.bytesGP : Try.prog.bytesOf 56 = 32 := by kernel_rfl
theorem Try.bytes3G : Try.prog.bytesOf 3 = 8 := by kernel_rfl
theorem chooseG {α : Type} {n : Nat} {p : Nat → α → Prop} (d : α) (h : ∀ i, i < n → ∃ a, p i a) : ∃ f : Nat → α, ∀ i, i < n → p i (f i) :=
  ⟨fun i => if hi : i < n then (h i hi).choose else d, fun i hi => by simp only [hi, dif_pos]; exact (h i hi).choose_spec⟩
theorem off_noneG {W : World} {x : Addr} {v : Value} (h : W.cell? (x.add 0) = some v) : x.spot = none := by
  obtain ⟨b, off, sp⟩ := x
  cases sp with
  | none => rfl
  | some s => simp [World.cell?, Addr.add] at h; split at h <;> cases h
/-- What a walk is told of a graph that came in. -/
structure ArgG (w : World) (a1 a2 a3 a4 : Option Addr) (c3 c4 : Nat) (g : GG) : Prop where
  gr : GrG w a1 a2 a3 a4 g
  n3 : a3 = none → c3 = 0
  n4 : a4 = none → c4 = 0
theorem ArgG.below {w w' : World} {a1 a2 a3 a4 : Option Addr} {c3 c4 : Nat} {g : GG} (h : ArgG w a1 a2 a3 a4 c3 c4 g) (hb : Below w.heap.size w w') : ArgG w' a1 a2 a3 a4 c3 c4 g := ⟨h.gr.below hb, h.n3, h.n4⟩
section
variable {H : Type} {enc : TypeId × Value → H} {W : World} {base : Nat} {held : Bool}
theorem wAll_memG {P : Program} {e : TypeId} {q : Nat → Bool} : ∀ {l : List (DataW H)} {d : DataW H}, d ∈ l → (DataW.weightsAll P e l).all q = true → (d.weights P e).all q = true
  | [], _, h, _ => by simp at h
  | d0 :: l, d, h, hw => by
    simp only [DataW.weightsAll, List.all_append, Bool.and_eq_true] at hw
    rcases List.mem_cons.1 h with rfl | h
    · exact hw.1
    · exact wAll_memG h hw.2
/-- What is known of a slice of numbers that came in. -/
theorem numsG_open {n : Nat} {v : Value} {y : DataW H × List MemPlace} (h : DataW.trod enc Try.prog W base (fun _ => true) held n 46 [v] = some y) (hw : (y.1.weights Try.prog 46).all (· ≤ reachBytes) = true) :
    ∃ (ns : List Int) (x : Option Addr) (c : Nat), v = .slice x ns.length c ∧ Arg W x ns.length c ns := by
  rcases open_ints Try.underlying46 Try.underlying3 Try.cells3G h with ⟨h1, -⟩ | ⟨a, len, cap, zs, h1, -, hl, -, hz, hx, hc, hb⟩
  · simp only [List.cons.injEq, and_true] at h1
    subst h1
    exact ⟨[], none, 0, rfl, arg_nil⟩
  · simp only [List.cons.injEq, and_true] at h1
    subst h1
    simp only [if_true] at hz
    have hl2 : (zs.take len).length = len := by rw [List.length_take]; omega
    have hr : len * 8 ≤ 140737488351232 := by
      rw [hx] at hw
      simp only [DataW.weights, Try.underlying46, List.all_cons, Bool.and_eq_true, decide_eq_true_eq, Try.bytes3G] at hw
      have := hw.1
      simp only [reachBytes, lits, List.length_map, List.length_take, List.length_drop] at this
      omega
    refine ⟨zs.take len, some a, cap, by rw [hl2], ?_⟩
    rw [hl2]
    exact arg_mk hl hz hc hb hr
set_option maxRecDepth 100000 in
theorem actorG_open {n : Nat} {cs : List Value} {y : DataW H × List MemPlace} (h : DataW.trod enc Try.prog W base (fun _ => true) held n 59 cs = some y) (hw : (y.1.weights Try.prog 59).all (· ≤ reachBytes) = true) :
    ∃ p : GA × Value, cs = aP p ∧ ParA W p := by
  obtain ⟨xs, k, hk, hxy, hcl, hxl, hf⟩ := DataW.trod_struct Try.underlying59 h
  rw [Try.cellsGA] at hcl
  match xs, hxl, cs, hcl with
  | [y0, y1, y2], _, [v0, v1, v2], _ =>
    have g0 := hf 0 _ rfl
    have g1 := hf 1 _ rfl
    have g2 := hf 2 _ rfl
    simp [Try.cells9G, Try.cellsTG, Try.cellsSL] at g0 g1 g2
    have hw2 : (y2.1.weights Try.prog 46).all (· ≤ reachBytes) = true := by
      rw [hxy] at hw
      simp only [DataW.weights, Try.underlying59] at hw
      rw [List.all_eq_true] at hw ⊢
      exact fun m hm => hw m (DataW.weights_mem_each (j := 2) (t := 46) (d := y2.1) rfl rfl m hm)
    obtain ⟨z0, q0, -⟩ := DataW.trod_string Try.underlying9 g0
    obtain ⟨z1, q1, -, b1⟩ := DataW.trod_int Try.underlying57 g1
    obtain ⟨ns, x, c, q2, hA⟩ := numsG_open g2 hw2
    simp only [List.cons.injEq, and_true] at q0 q1
    subst q0 q1 q2
    have bd := bounds_u8 b1
    obtain ⟨tg, rfl⟩ : ∃ t : Nat, z1 = (t : Int) := ⟨z1.toNat, by omega⟩
    exact ⟨(⟨z0.data.toList, tg, ns⟩, .slice x ns.length c), rfl, by show tg ≤ 255; omega, x, c, rfl, hA⟩
set_option maxRecDepth 100000 in
theorem edgeG_open {n : Nat} {cs : List Value} {y : DataW H × List MemPlace} (h : DataW.trod enc Try.prog W base (fun _ => true) held n 54 cs = some y) (hw : (y.1.weights Try.prog 54).all (· ≤ reachBytes) = true) :
    ∃ p : GE × Value, cs = eP p ∧ ParE W p := by
  obtain ⟨xs, k, hk, hxy, hcl, hxl, hf⟩ := DataW.trod_struct Try.underlying54 h
  rw [Try.cellsGE] at hcl
  match xs, hxl, cs, hcl with
  | [y0, y1, y2, y3, y4], _, [v0, v1, v2, v3, v4], _ =>
    have g0 := hf 0 _ rfl
    have g1 := hf 1 _ rfl
    have g2 := hf 2 _ rfl
    have g3 := hf 3 _ rfl
    have g4 := hf 4 _ rfl
    simp [Try.cells3G, Try.cellsSL] at g0 g1 g2 g3 g4
    have hw4 : (y4.1.weights Try.prog 46).all (· ≤ reachBytes) = true := by
      rw [hxy] at hw
      simp only [DataW.weights, Try.underlying54] at hw
      rw [List.all_eq_true] at hw ⊢
      exact fun m hm => hw m (DataW.weights_mem_each (j := 4) (t := 46) (d := y4.1) rfl rfl m hm)
    obtain ⟨z0, q0, -, -⟩ := DataW.trod_int Try.underlying3 g0
    obtain ⟨z1, q1, -, -⟩ := DataW.trod_int Try.underlying3 g1
    obtain ⟨z2, q2, -, -⟩ := DataW.trod_int Try.underlying3 g2
    obtain ⟨z3, q3, -, -⟩ := DataW.trod_int Try.underlying3 g3
    obtain ⟨ns, x, c, q4, hA⟩ := numsG_open g4 hw4
    simp only [List.cons.injEq, and_true] at q0 q1 q2 q3
    subst q0 q1 q2 q3 q4
    exact ⟨(⟨z0, z1, z2, z3, ns⟩, .slice x ns.length c), rfl, x, c, rfl, hA⟩
set_option maxRecDepth 100000 in
theorem portG_open {n : Nat} {cs : List Value} {y : DataW H × List MemPlace} (h : DataW.trod enc Try.prog W base (fun _ => true) held n 56 cs = some y) :
    ∃ p : GP, cs = pP p ∧ True := by
  obtain ⟨xs, k, hk, hxy, hcl, hxl, hf⟩ := DataW.trod_struct Try.underlying56 h
  rw [Try.cellsGP] at hcl
  match xs, hxl, cs, hcl with
  | [y0, y1, y2], _, [v0, v1, v2], _ =>
    have g0 := hf 0 _ rfl
    have g1 := hf 1 _ rfl
    have g2 := hf 2 _ rfl
    simp [Try.cells9G, Try.cells3G] at g0 g1 g2
    obtain ⟨z0, q0, -⟩ := DataW.trod_string Try.underlying9 g0
    obtain ⟨z1, q1, -, -⟩ := DataW.trod_int Try.underlying3 g1
    obtain ⟨z2, q2, -, -⟩ := DataW.trod_int Try.underlying3 g2
    simp only [List.cons.injEq, and_true] at q0 q1 q2
    subst q0 q1 q2
    exact ⟨⟨z0.data.toList, z1, z2⟩, rfl, trivial⟩
theorem sliceG_open {α : Type} (S T : TypeId) (c bt : Nat) (f : α → List Value) (hfl : ∀ x, (f x).length = c) (d0 : α) (hS : Try.prog.underlying S = some (.slice T)) (hc0 : 0 < c) (hc : Try.prog.cellsOf T = c) (hby : Try.prog.bytesOf T = bt) (P : α → Prop)
    (hel : ∀ {n : Nat} {cs : List Value} {y : DataW H × List MemPlace}, DataW.trod enc Try.prog W base (fun _ => true) held n T cs = some y → (y.1.weights Try.prog T).all (· ≤ reachBytes) = true → ∃ p, cs = f p ∧ P p)
    {n : Nat} {v : Value} {y : DataW H × List MemPlace} (h : DataW.trod enc Try.prog W base (fun _ => true) held n S [v] = some y) (hw : (y.1.weights Try.prog S).all (· ≤ reachBytes) = true) :
    ∃ (a : Option Addr) (cap : Nat) (L : List α), v = .slice a L.length cap ∧ (a = none → cap = 0) ∧ L.length * bt ≤ 140737488351232 ∧ (∀ p ∈ L, P p) ∧ (L = [] ∨ ∃ b off, a = some ⟨b, off, none⟩ ∧ ∀ k (hk : k < L.length), ∀ j u, (f L[k])[j]? = some u → W.cell? ⟨b, off + k * c + j, none⟩ = some u) := by
  rcases Deep.open_slice hS h with ⟨h1, -⟩ | ⟨x, len, cap, m, n, D, Pl, h1, -, hl, -, hm, hd, hx⟩
  · simp only [List.cons.injEq, and_true] at h1
    subst h1
    exact ⟨none, 0, [], rfl, fun _ => rfl, by simp, fun p hp => (by cases hp), .inl rfl⟩
  · simp only [List.cons.injEq, and_true] at h1
    subst h1
    simp only [if_true] at hm
    rw [hd] at hw
    simp only [DataW.weights, hS, List.all_cons, List.all_append, Bool.and_eq_true, decide_eq_true_eq, hby] at hw
    obtain ⟨wr, we, -⟩ := hw
    simp only [reachBytes, List.length_map, List.length_range] at wr
    have each : ∀ i, i < len → ∃ p : α, W.cells? base (x.add (i * c)) c = some (f p) ∧ P p := by
      intro i hi
      obtain ⟨cs', h1, h2⟩ := hx i (by omega)
      rw [hc] at h1
      obtain ⟨p, rfl, hp⟩ := hel h2 (wAll_memG (List.mem_map.2 ⟨i, List.mem_range.2 hi, rfl⟩) we)
      exact ⟨p, h1, hp⟩
    obtain ⟨q, hq⟩ := chooseG d0 each
    have hlen : ((List.range len).map q).length = len := by simp
    refine ⟨some x, cap, (List.range len).map q, by rw [hlen], (fun e => by cases e), ?_, fun p hp => ?_, ?_⟩
    · rw [hlen]
      have h2 : len * bt ≤ m * bt := Nat.mul_le_mul_right _ (by omega)
      have h3 : len * bt ≤ (len + (m - len)) * bt := Nat.mul_le_mul_right _ (Nat.le_add_right _ _)
      omega
    · obtain ⟨i, hi, rfl⟩ := List.mem_map.1 hp
      exact (hq i (List.mem_range.1 hi)).2
    · by_cases h0 : 0 < len
      · right
        have cell : ∀ i, i < len → ∀ j u, (f (q i))[j]? = some u → W.cell? ((x.add (i * c)).add j) = some u := fun i hi j u hu => by
          obtain ⟨_, hlen, hcc⟩ := World.cells?_some (hq i hi).1
          have hj : j < c := by
            have := (List.getElem?_eq_some_iff.1 hu).1
            rw [hfl] at this
            exact this
          rw [hcc j hj, hu]
        obtain ⟨u0, hu0⟩ : ∃ u, (f (q 0))[0]? = some u := ⟨_, List.getElem?_eq_getElem (by rw [hfl]; exact hc0)⟩
        have hs := off_noneG (W := W) (x := x.add (0 * c)) (cell 0 h0 0 u0 hu0)
        obtain ⟨b, off, sp⟩ := x
        rw [Nat.zero_mul] at hs
        have hs' : sp = none := by simpa [Addr.add] using hs
        subst hs'
        refine ⟨b, off, rfl, fun k hk j u hu => ?_⟩
        have hk' : k < len := by simpa using hk
        rw [List.getElem_map, List.getElem_range] at hu
        have cc := cell k hk' j u hu
        rw [Addr.add_lit, Addr.add_lit] at cc
        exact cc
      · left
        have e : len = 0 := by omega
        subst e
        rfl
set_option maxRecDepth 100000 in
theorem graph_open {r : Reach} {b0 : Nat} {v : Value} {d : DataW H} {p : List MemPlace} (hv : Value.okWide Try.prog W r b0 31 v) (h : DataW.Trod enc Try.prog W base (fun _ => true) held 31 v d p) (hw : (d.weights Try.prog 31).all (· ≤ reachBytes) = true) :
    ∃ (g : GG) (a1 a2 a3 a4 : Option Addr) (c1 c2 c3 c4 : Nat), v = .agg #[.string (str g.name), .slice a1 g.actors.length c1, .slice a2 g.edges.length c2, .slice a3 g.ins.length c3, .slice a4 g.outs.length c4] ∧ ArgG W a1 a2 a3 a4 c3 c4 g := by
  obtain ⟨cs, rfl, hsz⟩ := okWide_struct Try.underlying31 hv
  rw [Try.cellsGG] at hsz
  obtain ⟨fuel, hf⟩ := h
  obtain ⟨xs, k, hk, hxy, hcl, hxl, hf⟩ := DataW.trod_struct Try.underlying31 hf
  obtain ⟨l⟩ := cs
  match xs, hxl, l, hsz with
  | [y0, y1, y2, y3, y4], _, [v0, v1, v2, v3, v4], _ =>
    have g0 := hf 0 _ rfl
    have g1 := hf 1 _ rfl
    have g2 := hf 2 _ rfl
    have g3 := hf 3 _ rfl
    have g4 := hf 4 _ rfl
    simp [Value.cells, Try.cells9G, Try.cellsSA, Try.cellsSE, Try.cellsSP] at g0 g1 g2 g3 g4
    have hd := congrArg Prod.fst hxy
    simp only at hd
    rw [hd] at hw
    simp only [DataW.weights, Try.underlying31] at hw
    rw [List.all_eq_true] at hw
    have w1 : (y1.1.weights Try.prog 27).all (· ≤ reachBytes) = true := by rw [List.all_eq_true]; exact fun m hm => hw m (DataW.weights_mem_each (j := 1) (t := 27) (d := y1.1) rfl rfl m hm)
    have w2 : (y2.1.weights Try.prog 28).all (· ≤ reachBytes) = true := by rw [List.all_eq_true]; exact fun m hm => hw m (DataW.weights_mem_each (j := 2) (t := 28) (d := y2.1) rfl rfl m hm)
    have w3 : (y3.1.weights Try.prog 29).all (· ≤ reachBytes) = true := by rw [List.all_eq_true]; exact fun m hm => hw m (DataW.weights_mem_each (j := 3) (t := 29) (d := y3.1) rfl rfl m hm)
    have w4 : (y4.1.weights Try.prog 29).all (· ≤ reachBytes) = true := by rw [List.all_eq_true]; exact fun m hm => hw m (DataW.weights_mem_each (j := 4) (t := 29) (d := y4.1) rfl rfl m hm)
    obtain ⟨z0, q0, -⟩ := DataW.trod_string Try.underlying9 g0
    simp only [List.cons.injEq, and_true] at q0
    subst q0
    obtain ⟨a1, c1, As, rfl, -, n1, p1, r1⟩ := sliceG_open 27 59 3 48 aP aP_len (⟨[], 0, []⟩, Value.slice none 0 0) Try.underlying27 (by decide) Try.cellsGA Try.bytesGA (ParA W) (fun h hw => actorG_open h hw) g1 w1
    obtain ⟨a2, c2, Es, rfl, -, n2, p2, r2⟩ := sliceG_open 28 54 5 56 eP eP_len (⟨0, 0, 0, 0, []⟩, Value.slice none 0 0) Try.underlying28 (by decide) Try.cellsGE Try.bytesGE (ParE W) (fun h hw => edgeG_open h hw) g2 w2
    obtain ⟨a3, c3, Ps, rfl, m3, n3, -, r3⟩ := sliceG_open 29 56 3 32 pP pP_len ⟨[], 0, 0⟩ Try.underlying29 (by decide) Try.cellsGP Try.bytesGP (fun _ => True) (fun h _ => portG_open h) g3 w3
    obtain ⟨a4, c4, Os, rfl, m4, n4, -, r4⟩ := sliceG_open 29 56 3 32 pP pP_len ⟨[], 0, 0⟩ Try.underlying29 (by decide) Try.cellsGP Try.bytesGP (fun _ => True) (fun h _ => portG_open h) g4 w4
    refine ⟨⟨z0.data.toList, As.map Prod.fst, Es.map Prod.fst, Ps, Os⟩, a1, a2, a3, a4, c1, c2, c3, c4, by simp only [List.length_map]; rfl, ⟨?_, ?_, ?_, ?_, by show (As.map Prod.fst).length ≤ _; rw [List.length_map]; omega, by show (Es.map Prod.fst).length ≤ _; rw [List.length_map]; omega, by show Ps.length ≤ _; omega, by show Os.length ≤ _; omega⟩, m3, m4⟩
    · rcases r1 with rfl | ⟨b, off, rfl, hc⟩
      · exact .inl rfl
      · refine .inr ⟨b, off, rfl, fun k hk => ?_⟩
        rw [List.length_map] at hk
        have e : nthA (As.map Prod.fst) k = As[k].1 := by rw [nthA_get (by rw [List.length_map]; exact hk), List.getElem_map]
        obtain ⟨h1, x, c, h2, h3⟩ := p1 As[k] (List.getElem_mem hk)
        rw [e]
        exact ⟨hc k hk 0 _ rfl, hc k hk 1 _ rfl, h1, x, c, hc k hk 2 _ (by rw [← h2]; rfl), h3⟩
    · rcases r2 with rfl | ⟨b, off, rfl, hc⟩
      · exact .inl rfl
      · refine .inr ⟨b, off, rfl, fun k hk => ?_⟩
        rw [List.length_map] at hk
        have e : nthE (Es.map Prod.fst) k = Es[k].1 := by rw [nthE_get (by rw [List.length_map]; exact hk), List.getElem_map]
        obtain ⟨x, c, h2, h3⟩ := p2 Es[k] (List.getElem_mem hk)
        rw [e]
        exact ⟨hc k hk 0 _ rfl, hc k hk 1 _ rfl, hc k hk 2 _ rfl, hc k hk 3 _ rfl, x, c, hc k hk 4 _ (by rw [← h2]; rfl), h3⟩
    · rcases r3 with rfl | ⟨b, off, rfl, hc⟩
      · exact .inl rfl
      · refine .inr ⟨b, off, rfl, fun k hk => ?_⟩
        rw [nthP_get hk]
        exact ⟨hc k hk 0 _ rfl, hc k hk 1 _ rfl, hc k hk 2 _ rfl⟩
    · rcases r4 with rfl | ⟨b, off, rfl, hc⟩
      · exact .inl rfl
      · refine .inr ⟨b, off, rfl, fun k hk => ?_⟩
        rw [nthP_get hk]
        exact ⟨hc k hk 0 _ rfl, hc k hk 1 _ rfl, hc k hk 2 _ rfl⟩
end
/-- A graph that is not heavy. -/
structure Light (g : GG) : Prop where
  a : g.actors.length ≤ 1048576
  e : g.edges.length ≤ 1048576
  i : g.ins.length ≤ 1048576
  o : g.outs.length ≤ 1048576
  pa : ∀ x ∈ g.actors, x.params.length ≤ 1048576
  pe : ∀ x ∈ g.edges, x.start.length ≤ 1048576
def HeavyE (g : GG) (w : World) (e : Ending) (w' : World) : Prop := ∃ b, e = .returned (.bool b) ∧ (b = false → Light g) ∧ Below w.heap.size w w'
theorem GrA.len {w : World} {a : Option Addr} {As : List GA} (h : GrA w a As) : ∀ x ∈ As, x.params.length ≤ 17592186043904 := fun x hx => by
  obtain ⟨k, hk, rfl⟩ := memA hx
  rcases h with h | ⟨b, off, -, hc⟩
  · rw [h] at hk; exact absurd hk (Nat.not_lt_zero _)
  · obtain ⟨-, -, -, y, c, -, h5⟩ := hc k hk
    have := h5.reach
    omega
theorem GrE.len {w : World} {a : Option Addr} {As : List GE} (h : GrE w a As) : ∀ x ∈ As, x.start.length ≤ 17592186043904 := fun x hx => by
  obtain ⟨k, hk, rfl⟩ := memE hx
  rcases h with h | ⟨b, off, -, hc⟩
  · rw [h] at hk; exact absurd hk (Nat.not_lt_zero _)
  · obtain ⟨-, -, -, -, y, c, -, h5⟩ := hc k hk
    have := h5.reach
    omega
set_option maxRecDepth 100000 in
set_option maxHeartbeats 8000000 in
theorem heavyGraph_any (g : GG) (a1 a2 a3 a4 : Option Addr) (c1 c2 c3 c4 : Nat) (w : World) (h : GrG w a1 a2 a3 a4 g) :
    Calls Try.prog 16 #[.agg #[.string (str g.name), .slice a1 g.actors.length c1, .slice a2 g.edges.length c2, .slice a3 g.ins.length c3, .slice a4 g.outs.length c4]] w (HeavyE g w) := by
  have HG := hiddenG h
  have HLA := hiddenG h.A.len
  have HLE := hiddenG h.E.len
  have b1 := h.l1
  have b2 := h.l2
  have b3 := h.l3
  have b4 := h.l4
  have B0 := hiddenG ((Below.refl w.heap.size w).alloc (Nat.le_refl _) (.cells #[.string (str g.name), .slice a1 g.actors.length c1, .slice a2 g.edges.length c2, .slice a3 g.ins.length c3, .slice a4 g.outs.length c4] 31))
  have X0 := hiddenG (blkA_new 31 w #[.string (str g.name), .slice a1 g.actors.length c1, .slice a2 g.edges.length c2, .slice a3 g.ins.length c3, .slice a4 g.outs.length c4])
  have y1 := X0.out.cell (k := 1) rfl
  have y2 := X0.out.cell (k := 2) rfl
  have y3 := X0.out.cell (k := 3) rfl
  have y4 := X0.out.cell (k := 4) rfl
  have i1 : (g.actors.length : Int) ≤ 1000000000000000 := by omega
  have i2 : (g.edges.length : Int) ≤ 1000000000000000 := by omega
  have i3 : (g.ins.length : Int) ≤ 1000000000000000 := by omega
  have i4 : (g.outs.length : Int) ≤ 1000000000000000 := by omega
  clear h
  go_enter Try.func16, Try.ntmps16
  go_upto_region 1 with fail
  generalize w.alloc (.cells #[.string (str g.name), .slice a1 g.actors.length c1, .slice a2 g.edges.length c2, .slice a3 g.ins.length c3, .slice a4 g.outs.length c4] 31) = W0 at *
  obtain ⟨N, hN⟩ : ∃ N, g.actors.length + g.edges.length + g.ins.length + g.outs.length = N := ⟨_, rfl⟩
  have HN := hiddenG hN
  have hNI : (g.actors.length : Int) + (g.edges.length : Int) + (g.ins.length : Int) + (g.outs.length : Int) = (N : Int) := by omega
  have hNB : N ≤ 4000000000000000 := by omega
  clear hN
  go_wp2
  go_loopg [3, 4] g.actors.length (fun gk sv v wr => ∃ (k s : Nat), k ≤ g.actors.length ∧ gk = g.actors.length - k ∧ v = .int .i64 (k : Int) ∧ sv = .int .i64 (s : Int) ∧ N ≤ s ∧ s ≤ 4000000000000000 + (k + 0 + 1) * 17592186043904 ∧ (1048576 < s ∨ s ≤ 1048576) ∧ (s ≤ 1048576 + 17592186043904 ∨ s = N) ∧ (∀ i, i < k → (nthA g.actors i).params.length ≤ s) ∧ Below w.heap.size w wr ∧ BlkA 31 w.heap.size wr #[.string (str g.name), .slice a1 g.actors.length c1, .slice a2 g.edges.length c2, .slice a3 g.ins.length c3, .slice a4 g.outs.length c4])
  case atStart => exact ⟨0, N, Nat.zero_le _, rfl, rfl, by go_num, Nat.le_refl _, by omega, by omega, .inr rfl, fun i hi => absurd hi (Nat.not_lt_zero _), B0.out, X0.out⟩
  case round =>
    clear B0 X0 y1 y2 y3 y4
    obtain ⟨k, s, hk, rfl, rfl, rfl, hs1, -, -, hs4, hall, hB, hX⟩ := hrel
    have HALL := hiddenG hall
    have HB := hiddenG hB
    have HX := hiddenG hX
    have y1 : wr.cell? ⟨w.heap.size, 1, none⟩ = some (.slice a1 g.actors.length c1) := hX.cell rfl
    have y2 : wr.cell? ⟨w.heap.size, 2, none⟩ = some (.slice a2 g.edges.length c2) := hX.cell rfl
    clear hall hB hX
    have hsI : (s : Int) ≤ 4017592187092480 := by omega
    by_cases hlt : k < g.actors.length ∧ s ≤ 1048576
    · obtain ⟨hlt, hs2⟩ := hlt
      have hki : (k : Int) < (g.actors.length : Int) := by omega
      have hsj : (s : Int) ≤ 1048576 := by omega
      rcases (HG.out.below HB.out).A with e | ⟨b, off, rfl, hc⟩
      · rw [e] at hlt; exact absurd hlt (Nat.not_lt_zero _)
      have hcell := hc k hlt
      obtain ⟨xa, xc, x2⟩ : ∃ x c, wr.cell? ⟨b, off + k * 3 + 2, none⟩ = some (.slice x (nthA g.actors k).params.length c) := by
        obtain ⟨-, -, -, x, c, x2, -⟩ := hcell
        exact ⟨x, c, x2⟩
      have hm := HLA.out (nthA g.actors k) (mem_nthA hlt)
      have HAL2 : Hid (∀ i, i < k + 1 → (nthA g.actors i).params.length ≤ s + (nthA g.actors k).params.length) := fun i hi => by
        by_cases e : i < k
        · have := HALL.out i e; omega
        · have : i = k := by omega
          subst this; omega
      clear hc hcell
      generalize (nthA g.actors k).params.length = m at *
      have hmI : (m : Int) ≤ 17592186043904 := by omega
      go_wp2
      go_roundg (g.actors.length - (k + 1))
      case measure => omega
      case rel => exact ⟨k + 1, s + m, by omega, rfl, by go_num, by go_num, by omega, by omega, by omega, by omega, HAL2.out, HB.out, HX.out⟩
    · have HS4 := hs4
      have hpa : Hid (∀ x ∈ g.actors, x.params.length ≤ s ∨ 1048576 < s) := fun x hx => by
        obtain ⟨i, hi, rfl⟩ := memA hx
        by_cases hq : s ≤ 1048576
        · exact .inl (HALL.out i (by omega))
        · exact .inr (by omega)
      by_cases hkn : k < g.actors.length
      · have hki : (k : Int) < (g.actors.length : Int) := by omega
        have hsj : ¬ ((s : Int) ≤ 1048576) := by omega
        go_wp2
        go_loopg [3, 5] g.edges.length (fun gk sv v wr => ∃ (k s : Nat), k ≤ g.edges.length ∧ gk = g.edges.length - k ∧ v = .int .i64 (k : Int) ∧ sv = .int .i64 (s : Int) ∧ N ≤ s ∧ s ≤ 4000000000000000 + (k + g.actors.length + 1) * 17592186043904 ∧ (1048576 < s ∨ s ≤ 1048576) ∧ (s ≤ 1048576 + 17592186043904 ∨ s = N) ∧ (∀ i, i < k → (nthE g.edges i).start.length ≤ s) ∧ (∀ x ∈ g.actors, x.params.length ≤ s ∨ 1048576 < s) ∧ Below w.heap.size w wr ∧ BlkA 31 w.heap.size wr #[.string (str g.name), .slice a1 g.actors.length c1, .slice a2 g.edges.length c2, .slice a3 g.ins.length c3, .slice a4 g.outs.length c4])
        case atStart => exact ⟨0, s, Nat.zero_le _, rfl, rfl, rfl, hs1, by omega, by omega, by omega, fun i hi => absurd hi (Nat.not_lt_zero _), hpa.out, HB.out, HX.out⟩
        case round =>
          clear hpa HB HX HALL y1 y2 hsI hs1 HS4 hs4
          obtain ⟨k, s, hk, rfl, rfl, rfl, hs1, -, -, hs4, hall, hact, hB, hX⟩ := hrel
          have HALL := hiddenG hall
          have HB := hiddenG hB
          have HX := hiddenG hX
          have HAC := hiddenG hact
          have y1 : wr.cell? ⟨w.heap.size, 1, none⟩ = some (.slice a1 g.actors.length c1) := hX.cell rfl
          have y2 : wr.cell? ⟨w.heap.size, 2, none⟩ = some (.slice a2 g.edges.length c2) := hX.cell rfl
          clear hall hB hX hact
          have hsI : (s : Int) ≤ 4017592187092480 := by omega
          by_cases hlt : k < g.edges.length ∧ s ≤ 1048576
          · obtain ⟨hlt, hs2⟩ := hlt
            have hki : (k : Int) < (g.edges.length : Int) := by omega
            have hsj : (s : Int) ≤ 1048576 := by omega
            rcases (HG.out.below HB.out).E with e | ⟨b, off, rfl, hc⟩
            · rw [e] at hlt; exact absurd hlt (Nat.not_lt_zero _)
            have hcell := hc k hlt
            obtain ⟨xa, xc, x2⟩ : ∃ x c, wr.cell? ⟨b, off + k * 5 + 4, none⟩ = some (.slice x (nthE g.edges k).start.length c) := by
              obtain ⟨-, -, -, -, x, c, x2, -⟩ := hcell
              exact ⟨x, c, x2⟩
            have hm := HLE.out (nthE g.edges k) (mem_nthE hlt)
            have HAL2 : Hid (∀ i, i < k + 1 → (nthE g.edges i).start.length ≤ s + (nthE g.edges k).start.length) := fun i hi => by
              by_cases e : i < k
              · have := HALL.out i e; omega
              · have : i = k := by omega
                subst this; omega
            clear hc hcell
            generalize (nthE g.edges k).start.length = m at *
            have hmI : (m : Int) ≤ 17592186043904 := by omega
            go_wp2
            go_roundg (g.edges.length - (k + 1))
            case measure => omega
            case rel => exact ⟨k + 1, s + m, by omega, rfl, by go_num, by go_num, by omega, by omega, by omega, by omega, HAL2.out, fun x hx => by rcases HAC.out x hx with q | q <;> omega, HB.out, HX.out⟩
          · by_cases hkn : k < g.edges.length
            · have hki : (k : Int) < (g.edges.length : Int) := by omega
              have hsj : ¬ ((s : Int) ≤ 1048576) := by omega
              have hsk : (s : Int) > 1048576 := by omega
              go_wp2
              go_ret
              exact ⟨true, by first | rfl | (simp; omega), (fun e => by cases e), HB.out⟩
            · have hki : ¬ (k : Int) < (g.edges.length : Int) := by omega
              by_cases hs3 : s ≤ 1048576
              · have hsk : ¬ ((s : Int) > 1048576) := by omega
                go_wp2
                go_ret
                refine ⟨false, by first | rfl | (simp; omega), fun _ => ?_, HB.out⟩
                have hN := HN.out
                exact ⟨by omega, by omega, by omega, by omega, fun x hx => (HAC.out x hx).elim (fun q => Nat.le_trans q hs3) (fun q => absurd q (Nat.not_lt_of_ge hs3)), fun x hx => by
                  obtain ⟨i, hi, rfl⟩ := memE hx
                  exact Nat.le_trans (HALL.out i (by omega)) hs3⟩
              · have hsk : (s : Int) > 1048576 := by omega
                go_wp2
                go_ret
                exact ⟨true, by first | rfl | (simp; omega), (fun e => by cases e), HB.out⟩
      · have hki : ¬ (k : Int) < (g.actors.length : Int) := by omega
        go_wp2
        go_loopg [3, 5] g.edges.length (fun gk sv v wr => ∃ (k s : Nat), k ≤ g.edges.length ∧ gk = g.edges.length - k ∧ v = .int .i64 (k : Int) ∧ sv = .int .i64 (s : Int) ∧ N ≤ s ∧ s ≤ 4000000000000000 + (k + g.actors.length + 1) * 17592186043904 ∧ (1048576 < s ∨ s ≤ 1048576) ∧ (s ≤ 1048576 + 17592186043904 ∨ s = N) ∧ (∀ i, i < k → (nthE g.edges i).start.length ≤ s) ∧ (∀ x ∈ g.actors, x.params.length ≤ s ∨ 1048576 < s) ∧ Below w.heap.size w wr ∧ BlkA 31 w.heap.size wr #[.string (str g.name), .slice a1 g.actors.length c1, .slice a2 g.edges.length c2, .slice a3 g.ins.length c3, .slice a4 g.outs.length c4])
        case atStart => exact ⟨0, s, Nat.zero_le _, rfl, rfl, rfl, hs1, by omega, by omega, by omega, fun i hi => absurd hi (Nat.not_lt_zero _), hpa.out, HB.out, HX.out⟩
        case round =>
          clear hpa HB HX HALL y1 y2 hsI hs1 HS4 hs4
          obtain ⟨k, s, hk, rfl, rfl, rfl, hs1, -, -, hs4, hall, hact, hB, hX⟩ := hrel
          have HALL := hiddenG hall
          have HB := hiddenG hB
          have HX := hiddenG hX
          have HAC := hiddenG hact
          have y1 : wr.cell? ⟨w.heap.size, 1, none⟩ = some (.slice a1 g.actors.length c1) := hX.cell rfl
          have y2 : wr.cell? ⟨w.heap.size, 2, none⟩ = some (.slice a2 g.edges.length c2) := hX.cell rfl
          clear hall hB hX hact
          have hsI : (s : Int) ≤ 4017592187092480 := by omega
          by_cases hlt : k < g.edges.length ∧ s ≤ 1048576
          · obtain ⟨hlt, hs2⟩ := hlt
            have hki : (k : Int) < (g.edges.length : Int) := by omega
            have hsj : (s : Int) ≤ 1048576 := by omega
            rcases (HG.out.below HB.out).E with e | ⟨b, off, rfl, hc⟩
            · rw [e] at hlt; exact absurd hlt (Nat.not_lt_zero _)
            have hcell := hc k hlt
            obtain ⟨xa, xc, x2⟩ : ∃ x c, wr.cell? ⟨b, off + k * 5 + 4, none⟩ = some (.slice x (nthE g.edges k).start.length c) := by
              obtain ⟨-, -, -, -, x, c, x2, -⟩ := hcell
              exact ⟨x, c, x2⟩
            have hm := HLE.out (nthE g.edges k) (mem_nthE hlt)
            have HAL2 : Hid (∀ i, i < k + 1 → (nthE g.edges i).start.length ≤ s + (nthE g.edges k).start.length) := fun i hi => by
              by_cases e : i < k
              · have := HALL.out i e; omega
              · have : i = k := by omega
                subst this; omega
            clear hc hcell
            generalize (nthE g.edges k).start.length = m at *
            have hmI : (m : Int) ≤ 17592186043904 := by omega
            go_wp2
            go_roundg (g.edges.length - (k + 1))
            case measure => omega
            case rel => exact ⟨k + 1, s + m, by omega, rfl, by go_num, by go_num, by omega, by omega, by omega, by omega, HAL2.out, fun x hx => by rcases HAC.out x hx with q | q <;> omega, HB.out, HX.out⟩
          · by_cases hkn : k < g.edges.length
            · have hki : (k : Int) < (g.edges.length : Int) := by omega
              have hsj : ¬ ((s : Int) ≤ 1048576) := by omega
              have hsk : (s : Int) > 1048576 := by omega
              go_wp2
              go_ret
              exact ⟨true, by first | rfl | (simp; omega), (fun e => by cases e), HB.out⟩
            · have hki : ¬ (k : Int) < (g.edges.length : Int) := by omega
              by_cases hs3 : s ≤ 1048576
              · have hsk : ¬ ((s : Int) > 1048576) := by omega
                go_wp2
                go_ret
                refine ⟨false, by first | rfl | (simp; omega), fun _ => ?_, HB.out⟩
                have hN := HN.out
                exact ⟨by omega, by omega, by omega, by omega, fun x hx => (HAC.out x hx).elim (fun q => Nat.le_trans q hs3) (fun q => absurd q (Nat.not_lt_of_ge hs3)), fun x hx => by
                  obtain ⟨i, hi, rfl⟩ := memE hx
                  exact Nat.le_trans (HALL.out i (by omega)) hs3⟩
              · have hsk : (s : Int) > 1048576 := by omega
                go_wp2
                go_ret
                exact ⟨true, by first | rfl | (simp; omega), (fun e => by cases e), HB.out⟩
theorem flat_len {α : Type} (f : α → List Value) (c : Nat) (hc : ∀ x, (f x).length = c) : ∀ (L : List α), (L.flatMap f).length = L.length * c
  | [] => by simp
  | x :: r => by rw [List.flatMap_cons, List.length_append, hc, flat_len f c hc r, List.length_cons, Nat.succ_mul]; omega
theorem atP_flat {w : World} {ad : Addr} {Ps : List GP} (h : AtPt w (some ad) Ps) : ∀ j u, (Ps.flatMap pP)[j]? = some u → w.cell? (ad.add j) = some u := by
  intro j u hu
  have hj := (List.getElem?_eq_some_iff.1 hu).1
  rw [flat_len pP 3 pP_len] at hj
  rcases h with h | ⟨b, off, e, hc⟩
  · rw [h] at hj; simp at hj
  · cases e
    have hk : j / 3 < Ps.length := by omega
    have ej : j = j / 3 * 3 + j % 3 := by omega
    rw [ej, flat_at pP 3 pP_len Ps (j / 3) (j % 3) hk (Nat.mod_lt _ (by decide))] at hu
    obtain ⟨h0, h1, h2⟩ := hc (j / 3) hk
    rw [nthP_get hk] at h0 h1 h2
    rw [Addr.add_lit]
    have hr : j % 3 = 0 ∨ j % 3 = 1 ∨ j % 3 = 2 := by omega
    rcases hr with q | q | q
    · rw [q] at hu
      have e2 : off + j = off + j / 3 * 3 := by omega
      rw [e2, h0]
      exact hu
    · rw [q] at hu
      have e2 : off + j = off + j / 3 * 3 + 1 := by omega
      rw [e2, h1]
      exact hu
    · rw [q] at hu
      have e2 : off + j = off + j / 3 * 3 + 2 := by omega
      rw [e2, h2]
      exact hu
theorem flat_one' {α : Type} {f : α → List Value} (h : ∀ x, ∀ u ∈ f x, u.oneCell' = true) (L : List α) : ∀ u ∈ L.flatMap f, u.oneCell' = true := by
  intro u hu
  obtain ⟨x, hx, hu⟩ := List.mem_flatMap.1 hu
  exact h x u hu
/-- The head of a row of a call's own is one, too. -/
theorem owns_head {w : World} {base T c g n cap : Nat} {xs ys : List Value} {m : Nat} (h : w.ownsRow base T c (.slice (some ⟨g, 0, none⟩) n cap) n (xs ++ ys)) (hm : xs.length = m * c) (hmn : m ≤ n) : w.ownsRow base T c (.slice (some ⟨g, 0, none⟩) m cap) m xs := by
  obtain ⟨h1, h2⟩ := h
  refine ⟨hm, ?_⟩
  rcases h2 with ⟨hv, -⟩ | ⟨g', c', cur, hv, hg, hh, hc, hmm, hs, ht⟩
  · cases hv
  · cases hv
    refine .inr ⟨_, _, cur, rfl, hg, hh, by omega, hmm, hs, ?_⟩
    have h3 := congrArg (List.take (m * c)) ht
    rw [List.take_take, Nat.min_eq_left (Nat.mul_le_mul_right _ hmn)] at h3
    rw [h3, ← hm, List.take_left]
def markP : GP := ⟨[109, 97, 114, 107], -7770777, 0⟩
/-- Ports that were lent: a row of their own, a marked one behind them. -/
def LentP (B : Nat) (w : World) (a : Option Addr) (c : Nat) (Ps : List GP) : Prop := ∃ b, a = some ⟨b, 0, none⟩ ∧ B ≤ b ∧ Ps.length + 1 ≤ c ∧ w.ownsRow B 56 3 (.slice a (Ps.length + 1) c) (Ps.length + 1) (Ps.flatMap pP ++ pP markP)
theorem LentP.keep {B : Nat} {w w' : World} {a : Option Addr} {c : Nat} {Ps : List GP} (h : LentP B w a c Ps) (hk : ∀ k, B ≤ k → k < w.heap.size → w'.heap[k]? = w.heap[k]?) : LentP B w' a c Ps := by
  obtain ⟨b, h1, h2, h3, h4⟩ := h
  exact ⟨b, h1, h2, h3, ownR_keep h4 fun k e => hk k (own_row h4 k e) (own_lt h4 k e)⟩
theorem LentP.at {B : Nat} {w : World} {a : Option Addr} {c : Nat} {Ps : List GP} (h : LentP B w a c Ps) : AtPt w a Ps := by
  obtain ⟨b, rfl, -, -, h4⟩ := h
  exact rowP_at (n := Ps.length) (cp := c) (owns_head h4 (flat_len pP 3 pP_len Ps) (Nat.le_succ _))
def LentPE (Ps : List GP) (w : World) (e : Ending) (w' : World) : Prop := ∃ a c, e = .returned (.slice a Ps.length c) ∧ LentP w.heap.size w' a c Ps ∧ Below w.heap.size w w'
set_option maxRecDepth 100000 in
set_option maxHeartbeats 2000000 in
theorem lentPorts_any (Ps : List GP) (a : Option Addr) (n c : Nat) (w : World) (hn : Ps.length = n) (h : AtPt w a Ps) (hnil : a = none → c = 0) (hl : n ≤ 1048576) :
    Calls Try.prog 45 #[.slice a n c] w (LentPE Ps w) := by
  obtain ⟨i0, hi, hz0, hz1, hz2⟩ := info_parts Try.infoP
  have hmk : ∀ W : World, ∀ j u, (pP markP)[j]? = some u → (W.alloc (.cells #[.string ⟨#[109, 97, 114, 107]⟩, .int .i64 (-7770777), .int .i64 0] 56)).cell? ((⟨W.heap.size, 0, none⟩ : Addr).add j) = some u := fun W => cells_new W 56 (pP markP)
  have HMK := hiddenG hmk
  have HL := hiddenG hn
  clear hmk
  have nI : (n : Int) ≤ 1048576 := by omega
  cases a with
  | none =>
    have h0 : Ps = [] := by
      rcases h with h | ⟨b, off, e, -⟩
      · exact h
      · cases e
    subst h0
    have e0 : n = 0 := hn.symm
    subst e0
    have ec := hnil rfl
    subst ec
    clear hnil h hn
    go_enter Try.func45, Try.ntmps45
    go_wp2_with (first
      | (at_builtin; refine wpList_append_told _ rfl (.tmp 7) (.tmp 9) 29 rfl w.heap.size 56 i0 (.agg #[.string ⟨#[]⟩, .int .i64 0, .int .i64 0]) 3 32 Try.underlying29 hi hz0 hz1 hz2 rfl (by decide) (.slice none 0 0) 0 [] rfl (World.ownsRow_nil _ _ _ _) ⟨w.heap.size, 0, none⟩ 1 1 (by decide) (pP markP) rfl rfl (HMK.out w) (pP_one _) (by unfold maxLen; omega) (by omega) (by rw [World.size_alloc]; omega) ?_; intro v' w4 ho ht; obtain ⟨va4, vc4, rfl⟩ := told_shape ht; have HO4 := hiddenG ho; have HT4 := hiddenG ht; have hcap := row_cap ho (by decide); clear ho ht)
      | (at_builtin; refine wpList_append_own_none rfl (.tmp 4) (.tmp 5) 29 rfl w.heap.size 56 i0 3 Try.underlying29 hi _ 0 [] rfl (World.ownsRow_nil _ _ _ _) rfl ?_))
    have hc4 : (0 : Int) ≤ (vc4 : Int) := by omega
    obtain ⟨g4, rfl, hg4, -⟩ := own_open HO4.out (by decide)
    go_wp2
    go_ret
    refine ⟨_, _, rfl, ⟨g4, rfl, hg4, hcap, HO4.out⟩, ?_⟩
    obtain ⟨row, hg, hrow⟩ := told_grown HT4.out
    exact below_grownO ((Below.refl w.heap.size w).alloc (Nat.le_refl _) _) hg (fun k e => by have := hrow k e; cases this) (by rw [World.size_alloc]; exact Nat.le_succ _)
  | some ad =>
    have HF := hiddenG (atP_flat h)
    clear h hnil
    go_enter Try.func45, Try.ntmps45
    go_upto_region 3 with (at_builtin; refine wpList_append_own _ rfl (.tmp 4) (.tmp 5) 29 rfl w.heap.size 56 i0 (.agg #[.string ⟨#[]⟩, .int .i64 0, .int .i64 0]) 3 32 Try.underlying29 hi hz0 hz1 hz2 rfl (by decide) _ 0 [] rfl (World.ownsRow_nil _ _ _ _) ad n c (Ps.flatMap pP) rfl (by rw [flat_len pP 3 pP_len, HL.out]) HF.out (flat_one' pP_one Ps) (by unfold maxLen; omega) (by omega) (Nat.le_refl _) ?_; intro v1 w1 ho hg _; have HO1 := hiddenG ho; have HG1 := hiddenG hg; clear ho hg)
    have hv1 : w1.ownsRow w.heap.size 56 3 v1 n (Ps.flatMap pP) := by simpa using HO1.out
    obtain ⟨va, vc, rfl⟩ := own_slice hv1
    have HV1 := hiddenG hv1
    have B1 : Hid (Below w.heap.size w w1) := (Below.refl _ _).grown HG1.out (Nat.le_refl _) (fun k h => by cases h)
    clear hv1 HO1 HG1
    go_wp2_with (at_builtin; refine wpList_append_told _ rfl (.tmp 7) (.tmp 9) 29 rfl w.heap.size 56 i0 (.agg #[.string ⟨#[]⟩, .int .i64 0, .int .i64 0]) 3 32 Try.underlying29 hi hz0 hz1 hz2 rfl (by decide) (.slice va n vc) n (Ps.flatMap pP) rfl (owns_below HV1.out ((Below.refl _ _).alloc (Nat.le_refl _) _)) ⟨w1.heap.size, 0, none⟩ 1 1 (by decide) (pP markP) rfl rfl (HMK.out w1) (pP_one _) (by unfold maxLen; omega) (by omega) (by rw [World.size_alloc]; have := B1.out.size; omega) ?_; intro v' w4 ho ht; obtain ⟨va4, vc4, rfl⟩ := told_shape ht; have HO4 := hiddenG ho; have HT4 := hiddenG ht; have hcap := row_cap ho (by omega); clear ho ht)
    obtain ⟨g4, rfl, hg4, -⟩ := own_open HO4.out (by omega)
    have hcI : (n : Int) ≤ (vc4 : Int) := by omega
    go_wp2
    go_ret
    have hL := HL.out
    refine ⟨some ⟨g4, 0, none⟩, vc4, by rw [hL]; rfl, ⟨g4, rfl, hg4, by omega, by rw [hL]; exact HO4.out⟩, ?_⟩
    obtain ⟨row, hg, hrow⟩ := told_grown HT4.out
    have b2 := B1.out.alloc B1.out.size (.cells #[.string ⟨#[109, 97, 114, 107]⟩, .int .i64 (-7770777), .int .i64 0] 56)
    exact below_grownO b2 hg (fun k e => own_row HV1.out k (hrow k e)) b2.size
theorem cell_blk {w w' : World} {b k : Nat} (h : w'.heap[b]? = w.heap[b]?) : w'.cell? ⟨b, k, none⟩ = w.cell? ⟨b, k, none⟩ := by simp [World.cell?, h]
theorem Lend.keepB {B : Nat} {w w' : World} {g len : Nat} {zs : List Int} (h : Lend B w g len zs) (hk : w'.heap[g]? = w.heap[g]?) : Lend B w' g len zs := by
  obtain ⟨h1, h2, h3⟩ := h
  refine ⟨h1, h2, ?_⟩
  rcases h3 with h3 | ⟨b, off, e, hc⟩
  · exact .inl h3
  · cases e
    exact .inr ⟨g, 0, rfl, fun k hk2 => by rw [cell_blk hk]; exact hc k hk2⟩
theorem Lend.lt {B : Nat} {w : World} {g len : Nat} {zs : List Int} (h : Lend B w g len zs) : g < w.heap.size := block_lt_of_cell (h.cells.2 len (Nat.le_refl _) (by omega))
theorem Lend.base {B B' : Nat} {w : World} {g len : Nat} {zs : List Int} (h : Lend B w g len zs) (hb : B' ≤ B) : Lend B' w g len zs := ⟨Nat.le_trans hb h.1, h.2⟩
theorem Lend.arg {B : Nat} {w : World} {g : Nat} {zs : List Int} (h : Lend B w g zs.length zs) (ho : NumsOk zs) : Arg w (some ⟨g, 0, none⟩) zs.length (zs.length + 4) zs := ⟨rfl, ho.2, (fun e => by cases e), ho.1, h.at, by omega⟩
/-- Numbers that were lent. -/
def LentQ (B : Nat) (w : World) (q : Value) (ns : List Int) : Prop := ∃ gq, q = .slice (some ⟨gq, 0, none⟩) ns.length (ns.length + 4) ∧ Lend B w gq ns.length ns
theorem LentQ.lt {B : Nat} {w : World} {q : Value} {ns : List Int} (h : LentQ B w q ns) : ∀ k, q.ownBlock = some k → B ≤ k ∧ k < w.heap.size := by
  obtain ⟨gq, rfl, h⟩ := h
  intro k e
  cases e
  exact ⟨h.1, h.lt⟩
theorem LentQ.keep {B : Nat} {w w' : World} {q : Value} {ns : List Int} (h : LentQ B w q ns) (hk : ∀ k, q.ownBlock = some k → w'.heap[k]? = w.heap[k]?) : LentQ B w' q ns := by
  obtain ⟨gq, rfl, h⟩ := h
  exact ⟨gq, rfl, h.keepB (hk gq rfl)⟩
theorem LentQ.base {B B' : Nat} {w : World} {q : Value} {ns : List Int} (h : LentQ B w q ns) (hb : B' ≤ B) : LentQ B' w q ns := by
  obtain ⟨gq, h1, h2⟩ := h
  exact ⟨gq, h1, h2.base hb⟩
def markA : GA × Value := (⟨[109, 97, 114, 107], 99, []⟩, .slice none 0 0)
def markE : GE × Value := (⟨-7770777, 0, 0, 0, []⟩, .slice none 0 0)
structure LtA (w W1 : World) (nm : List UInt8) (u2 u3 u4 v : Value) (M : List (GA × Value)) (wr : World) : Prop where
  ob : BlkA 31 (w.heap.size + 2) wr #[.string (str nm), v, u2, u3, u4]
  row : wr.ownsRow W1.heap.size 59 3 v M.length (M.flatMap aP)
  qs : ∀ p ∈ M, LentQ W1.heap.size wr p.2 p.1.params
  ap : ∀ p ∈ M, NB v p.2
  chg : Chg (fun k => k = w.heap.size + 2 ∨ W1.heap.size ≤ k) W1 wr
  hk : w.heap.size + 2 < W1.heap.size
theorem LtA.put {w W1 nm u2 u3 u4 v M} {V : World} (h : LtA w W1 nm u2 u3 u4 v M V) {w2 w4 : World} {p : GA × Value} {v' : Value} (hb : Below V.heap.size V w2) (hq : LentQ V.heap.size w2 p.2 p.1.params)
    (ho : w4.ownsRow W1.heap.size 59 3 v' (M.length + 1) (M.flatMap aP ++ aP p))
    (ht : (∃ g cap, v = .slice (some ⟨g, 0, none⟩) M.length cap ∧ v' = .slice (some ⟨g, 0, none⟩) (M.length + 1) cap ∧ w2.grownBy w4 (some g)) ∨ (∃ cap, v' = .slice (some ⟨w2.heap.size, 0, none⟩) (M.length + 1) cap ∧ w2.grownBy w4 none)) :
    LtA w W1 nm u2 u3 u4 v' (M ++ [p]) (w4.setCell ⟨w.heap.size + 2, 1, none⟩ v') ∧ BlkA 31 (w.heap.size + 2) w4 #[.string (str nm), v, u2, u3, u4] := by
  have hk := h.hk
  have h1 := h.chg.size
  have hsz := hb.size
  have tk := told_keep ht
  have kp : ∀ d, d < V.heap.size → v.ownBlock ≠ some d → w4.heap[d]? = V.heap[d]? := fun d hd hn => (tk.2 d (by omega) hn).trans (hb.block d hd)
  have lowr : ∀ d, d < W1.heap.size → v.ownBlock ≠ some d := fun d hd e => by have := own_row h.row d e; omega
  have b3 := h.ob.keep (kp _ (by omega) (lowr _ hk))
  have set : ∀ k, k ≠ w.heap.size + 2 → (w4.setCell ⟨w.heap.size + 2, 1, none⟩ v').heap[k]? = w4.heap[k]? := fun k hk => Below.heap_setCell w4 ⟨w.heap.size + 2, 1, none⟩ v' k hk
  have np : NB v p.2 := fun k e1 e2 => by have := own_lt h.row k e1; have := (hq.lt k e2).1; omega
  refine ⟨⟨b3.set 1 v', ?_, fun q hq' => ?_, fun q hq' => ?_, ?_, hk⟩, b3⟩
  · rw [flat_one, List.length_append]
    exact ownR_keep ho fun k e => set k (by have := own_row ho k e; omega)
  · rcases List.mem_append.1 hq' with hm | hm
    · have l := h.qs q hm
      exact l.keep fun k e => (set k (by have := (l.lt k e).1; omega)).trans (kp k (l.lt k e).2 (fun e2 => h.ap q hm k e2 e))
    · rw [List.mem_singleton.1 hm]
      exact (hq.keep fun k e => (set k (by have := (hq.lt k e).1; omega)).trans (tk.2 k (hq.lt k e).2 (fun e2 => np k e2 e))).base h1
  · rcases List.mem_append.1 hq' with hm | hm
    · exact NB.told (h.ap q hm) (fun k e => Nat.lt_of_lt_of_le ((h.qs q hm).lt k e).2 hsz) ht
    · rw [List.mem_singleton.1 hm]
      exact NB.told np (fun k e => (hq.lt k e).2) ht
  · obtain ⟨row, hg, hrow⟩ := told_grown ht
    have c1 : Chg (fun k => k = w.heap.size + 2 ∨ W1.heap.size ≤ k) V w2 := Chg.of_below hb
    have c2 : Chg (fun k => k = w.heap.size + 2 ∨ W1.heap.size ≤ k) w2 w4 := Chg.grown hg fun k e => .inr (own_row h.row k (hrow k e))
    exact ((h.chg.trans' c1).trans' c2).trans' (Chg.set w4 (.inl rfl) 1 v')
/-- Actors that were lent: a row of their own, a marked one behind them; each one's numbers lent, too. -/
def LentA (B : Nat) (w : World) (a : Option Addr) (c : Nat) (As : List GA) : Prop := ∃ (b : Nat) (M : List (GA × Value)), a = some ⟨b, 0, none⟩ ∧ B ≤ b ∧ As.length + 1 ≤ c ∧ M.map Prod.fst = As ∧ w.ownsRow B 59 3 (.slice a (As.length + 1) c) (As.length + 1) (M.flatMap aP ++ aP markA) ∧ ∀ p ∈ M, LentQ B w p.2 p.1.params
theorem LentA.keep {B : Nat} {w w' : World} {a : Option Addr} {c : Nat} {As : List GA} (h : LentA B w a c As) (hk : ∀ k, B ≤ k → k < w.heap.size → w'.heap[k]? = w.heap[k]?) : LentA B w' a c As := by
  obtain ⟨b, M, h1, h2, h3, h4, h5, h6⟩ := h
  exact ⟨b, M, h1, h2, h3, h4, ownR_keep h5 fun k e => hk k (own_row h5 k e) (own_lt h5 k e), fun p hp => (h6 p hp).keep fun k e => hk k ((h6 p hp).lt k e).1 ((h6 p hp).lt k e).2⟩
theorem LentA.base {B B' : Nat} {w : World} {a : Option Addr} {c : Nat} {As : List GA} (h : LentA B w a c As) (hb : B' ≤ B) : LentA B' w a c As := by
  obtain ⟨b, M, h1, h2, h3, h4, h5, h6⟩ := h
  exact ⟨b, M, h1, Nat.le_trans hb h2, h3, h4, owns_mono h5 hb, fun p hp => (h6 p hp).base hb⟩
theorem LentA.gr {B : Nat} {w : World} {a : Option Addr} {c : Nat} {As : List GA} (h : LentA B w a c As) (ho : ∀ x ∈ As, x.tag ≤ 255 ∧ NumsOk x.params) : GrA w a As := by
  obtain ⟨b, M, rfl, -, -, h4, h5, h6⟩ := h
  have hl : M.length = As.length := by rw [← h4, List.length_map]
  rw [← hl] at h5
  have r := rowA_gr (n := M.length) (cp := c) (owns_head h5 (flat_len aP 3 aP_len M) (Nat.le_succ _)) (fun p hp => by
    have hx := ho p.1 (by rw [← h4]; exact List.mem_map_of_mem hp)
    obtain ⟨gq, e, hq⟩ := h6 p hp
    exact ⟨hx.1, _, _, e, hq.arg hx.2⟩)
  rw [h4] at r
  exact r
structure LtE (w W1 : World) (nm : List UInt8) (u1 u3 u4 v : Value) (M : List (GE × Value)) (wr : World) : Prop where
  ob : BlkA 31 (w.heap.size + 2) wr #[.string (str nm), u1, v, u3, u4]
  row : wr.ownsRow W1.heap.size 54 5 v M.length (M.flatMap eP)
  qs : ∀ p ∈ M, LentQ W1.heap.size wr p.2 p.1.start
  ap : ∀ p ∈ M, NB v p.2
  chg : Chg (fun k => k = w.heap.size + 2 ∨ W1.heap.size ≤ k) W1 wr
  hk : w.heap.size + 2 < W1.heap.size
theorem LtE.put {w W1 nm u1 u3 u4 v M} {V : World} (h : LtE w W1 nm u1 u3 u4 v M V) {w2 w4 : World} {p : GE × Value} {v' : Value} (hb : Below V.heap.size V w2) (hq : LentQ V.heap.size w2 p.2 p.1.start)
    (ho : w4.ownsRow W1.heap.size 54 5 v' (M.length + 1) (M.flatMap eP ++ eP p))
    (ht : (∃ g cap, v = .slice (some ⟨g, 0, none⟩) M.length cap ∧ v' = .slice (some ⟨g, 0, none⟩) (M.length + 1) cap ∧ w2.grownBy w4 (some g)) ∨ (∃ cap, v' = .slice (some ⟨w2.heap.size, 0, none⟩) (M.length + 1) cap ∧ w2.grownBy w4 none)) :
    LtE w W1 nm u1 u3 u4 v' (M ++ [p]) (w4.setCell ⟨w.heap.size + 2, 2, none⟩ v') ∧ BlkA 31 (w.heap.size + 2) w4 #[.string (str nm), u1, v, u3, u4] := by
  have hk := h.hk
  have h1 := h.chg.size
  have hsz := hb.size
  have tk := told_keep ht
  have kp : ∀ d, d < V.heap.size → v.ownBlock ≠ some d → w4.heap[d]? = V.heap[d]? := fun d hd hn => (tk.2 d (by omega) hn).trans (hb.block d hd)
  have lowr : ∀ d, d < W1.heap.size → v.ownBlock ≠ some d := fun d hd e => by have := own_row h.row d e; omega
  have b3 := h.ob.keep (kp _ (by omega) (lowr _ hk))
  have set : ∀ k, k ≠ w.heap.size + 2 → (w4.setCell ⟨w.heap.size + 2, 2, none⟩ v').heap[k]? = w4.heap[k]? := fun k hk => Below.heap_setCell w4 ⟨w.heap.size + 2, 2, none⟩ v' k hk
  have np : NB v p.2 := fun k e1 e2 => by have := own_lt h.row k e1; have := (hq.lt k e2).1; omega
  refine ⟨⟨b3.set 2 v', ?_, fun q hq' => ?_, fun q hq' => ?_, ?_, hk⟩, b3⟩
  · rw [flat_one, List.length_append]
    exact ownR_keep ho fun k e => set k (by have := own_row ho k e; omega)
  · rcases List.mem_append.1 hq' with hm | hm
    · have l := h.qs q hm
      exact l.keep fun k e => (set k (by have := (l.lt k e).1; omega)).trans (kp k (l.lt k e).2 (fun e2 => h.ap q hm k e2 e))
    · rw [List.mem_singleton.1 hm]
      exact (hq.keep fun k e => (set k (by have := (hq.lt k e).1; omega)).trans (tk.2 k (hq.lt k e).2 (fun e2 => np k e2 e))).base h1
  · rcases List.mem_append.1 hq' with hm | hm
    · exact NB.told (h.ap q hm) (fun k e => Nat.lt_of_lt_of_le ((h.qs q hm).lt k e).2 hsz) ht
    · rw [List.mem_singleton.1 hm]
      exact NB.told np (fun k e => (hq.lt k e).2) ht
  · obtain ⟨row, hg, hrow⟩ := told_grown ht
    have c1 : Chg (fun k => k = w.heap.size + 2 ∨ W1.heap.size ≤ k) V w2 := Chg.of_below hb
    have c2 : Chg (fun k => k = w.heap.size + 2 ∨ W1.heap.size ≤ k) w2 w4 := Chg.grown hg fun k e => .inr (own_row h.row k (hrow k e))
    exact ((h.chg.trans' c1).trans' c2).trans' (Chg.set w4 (.inl rfl) 2 v')
/-- Edges that were lent: a row of their own, a marked one behind them; each one's numbers lent, too. -/
def LentE (B : Nat) (w : World) (a : Option Addr) (c : Nat) (As : List GE) : Prop := ∃ (b : Nat) (M : List (GE × Value)), a = some ⟨b, 0, none⟩ ∧ B ≤ b ∧ As.length + 1 ≤ c ∧ M.map Prod.fst = As ∧ w.ownsRow B 54 5 (.slice a (As.length + 1) c) (As.length + 1) (M.flatMap eP ++ eP markE) ∧ ∀ p ∈ M, LentQ B w p.2 p.1.start
theorem LentE.keep {B : Nat} {w w' : World} {a : Option Addr} {c : Nat} {As : List GE} (h : LentE B w a c As) (hk : ∀ k, B ≤ k → k < w.heap.size → w'.heap[k]? = w.heap[k]?) : LentE B w' a c As := by
  obtain ⟨b, M, h1, h2, h3, h4, h5, h6⟩ := h
  exact ⟨b, M, h1, h2, h3, h4, ownR_keep h5 fun k e => hk k (own_row h5 k e) (own_lt h5 k e), fun p hp => (h6 p hp).keep fun k e => hk k ((h6 p hp).lt k e).1 ((h6 p hp).lt k e).2⟩
theorem LentE.base {B B' : Nat} {w : World} {a : Option Addr} {c : Nat} {As : List GE} (h : LentE B w a c As) (hb : B' ≤ B) : LentE B' w a c As := by
  obtain ⟨b, M, h1, h2, h3, h4, h5, h6⟩ := h
  exact ⟨b, M, h1, Nat.le_trans hb h2, h3, h4, owns_mono h5 hb, fun p hp => (h6 p hp).base hb⟩
theorem LentE.gr {B : Nat} {w : World} {a : Option Addr} {c : Nat} {As : List GE} (h : LentE B w a c As) (ho : ∀ x ∈ As, NumsOk x.start) : GrE w a As := by
  obtain ⟨b, M, rfl, -, -, h4, h5, h6⟩ := h
  have hl : M.length = As.length := by rw [← h4, List.length_map]
  rw [← hl] at h5
  have r := rowE_gr (n := M.length) (cp := c) (owns_head h5 (flat_len eP 5 eP_len M) (Nat.le_succ _)) (fun p hp => by
    have hx := ho p.1 (by rw [← h4]; exact List.mem_map_of_mem hp)
    obtain ⟨gq, e, hq⟩ := h6 p hp
    exact ⟨_, _, e, hq.arg hx⟩)
  rw [h4] at r
  exact r
theorem LentP.base {B B' : Nat} {w : World} {a : Option Addr} {c : Nat} {Ps : List GP} (h : LentP B w a c Ps) (hb : B' ≤ B) : LentP B' w a c Ps := by
  obtain ⟨b, h1, h2, h3, h4⟩ := h
  exact ⟨b, h1, Nat.le_trans hb h2, h3, owns_mono h4 hb⟩
/-- A graph that was lent. -/
structure LentG (B : Nat) (w : World) (x1 x2 x3 x4 : Option Addr) (c1 c2 c3 c4 : Nat) (g : GG) : Prop where
  a : LentA B w x1 c1 g.actors
  e : LentE B w x2 c2 g.edges
  i : LentP B w x3 c3 g.ins
  o : LentP B w x4 c4 g.outs
theorem LentG.keep {B : Nat} {w w' : World} {x1 x2 x3 x4 : Option Addr} {c1 c2 c3 c4 : Nat} {g : GG} (h : LentG B w x1 x2 x3 x4 c1 c2 c3 c4 g) (hk : ∀ k, B ≤ k → k < w.heap.size → w'.heap[k]? = w.heap[k]?) : LentG B w' x1 x2 x3 x4 c1 c2 c3 c4 g := ⟨h.a.keep hk, h.e.keep hk, h.i.keep hk, h.o.keep hk⟩
/-- What is told of a graph's numbers. -/
def NumsG (g : GG) : Prop := (∀ x ∈ g.actors, x.tag ≤ 255 ∧ NumsOk x.params) ∧ (∀ x ∈ g.edges, NumsOk x.start)
theorem GrG.nums {w : World} {a1 a2 a3 a4 : Option Addr} {g : GG} (h : GrG w a1 a2 a3 a4 g) : NumsG g := by
  refine ⟨fun x hx => ?_, fun x hx => ?_⟩
  · obtain ⟨k, hk, rfl⟩ := memA hx
    rcases h.A with e | ⟨b, off, -, hc⟩
    · rw [e] at hk; exact absurd hk (Nat.not_lt_zero _)
    · obtain ⟨-, -, h3, y, c, -, h5⟩ := hc k hk
      exact ⟨h3, h5.fits, h5.reach⟩
  · obtain ⟨k, hk, rfl⟩ := memE hx
    rcases h.E with e | ⟨b, off, -, hc⟩
    · rw [e] at hk; exact absurd hk (Nat.not_lt_zero _)
    · obtain ⟨-, -, -, -, y, c, -, h5⟩ := hc k hk
      exact ⟨h5.fits, h5.reach⟩
theorem LentG.gr {B : Nat} {w : World} {x1 x2 x3 x4 : Option Addr} {c1 c2 c3 c4 : Nat} {g : GG} (h : LentG B w x1 x2 x3 x4 c1 c2 c3 c4 g) (ho : NumsG g) (hl : Light g) : GrG w x1 x2 x3 x4 g :=
  ⟨h.a.gr ho.1, h.e.gr ho.2, h.i.at, h.o.at, Nat.le_trans hl.a (by decide), Nat.le_trans hl.e (by decide), Nat.le_trans hl.i (by decide), Nat.le_trans hl.o (by decide)⟩
def LentGE (g : GG) (w : World) (e : Ending) (w' : World) : Prop := ∃ x1 x2 x3 x4 d1 d2 d3 d4, e = .returned (.agg #[.string (str g.name), .slice x1 g.actors.length d1, .slice x2 g.edges.length d2, .slice x3 g.ins.length d3, .slice x4 g.outs.length d4]) ∧ LentG w.heap.size w' x1 x2 x3 x4 d1 d2 d3 d4 g ∧ Below w.heap.size w w'
/-- The boxes of what comes in and of what is answered. -/
structure LB (w : World) (gv : Array Value) (u : World) : Prop where
  i : BlkA 31 w.heap.size u gv
  r : BlkA 31 (w.heap.size + 1) u #[.string ⟨#[]⟩, .slice none 0 0, .slice none 0 0, .slice none 0 0, .slice none 0 0]
  bel : Below w.heap.size w u
theorem LB.below {w gv} {u u' : World} (h : LB w gv u) (hb : Below u.heap.size u u') : LB w gv u' := ⟨h.i.below hb, h.r.below hb, h.bel.trans (hb.mono h.bel.size)⟩
theorem LB.chg {w gv} {u u' : World} {N : Nat} (h : LB w gv u) (hc : Chg (fun k => k = w.heap.size + 2 ∨ N ≤ k) u u') (hN : w.heap.size + 2 < N) : LB w gv u' :=
  ⟨h.i.keep (hc.block _ h.i.lt (by omega)), h.r.keep (hc.block _ h.r.lt (by omega)), h.bel.trans (hc.below (L := w.heap.size) (fun k e => by omega) h.bel.size)⟩
theorem LB.set {w gv} {u : World} (h : LB w gv u) (f : Nat) (v : Value) : LB w gv (u.setCell ⟨w.heap.size + 2, f, none⟩ v) :=
  ⟨h.i.keep (Below.heap_setCell _ ⟨w.heap.size + 2, f, none⟩ _ _ (by show w.heap.size ≠ w.heap.size + 2; omega)), h.r.keep (Below.heap_setCell _ ⟨w.heap.size + 2, f, none⟩ _ _ (by show w.heap.size + 1 ≠ w.heap.size + 2; omega)), h.bel.setCell (p := ⟨w.heap.size + 2, f, none⟩) (Nat.le_add_right _ 2) _⟩
theorem told_boxA {w W1 nm u2 u3 u4 v M} {V : World} (h : LtA w W1 nm u2 u3 u4 v M V) {w2 w4 : World} {v' : Value} {n : Nat} (hb : Below V.heap.size V w2)
    (ht : (∃ g cap, v = .slice (some ⟨g, 0, none⟩) n cap ∧ v' = .slice (some ⟨g, 0, none⟩) (n + 1) cap ∧ w2.grownBy w4 (some g)) ∨ (∃ cap, v' = .slice (some ⟨w2.heap.size, 0, none⟩) (n + 1) cap ∧ w2.grownBy w4 none)) : BlkA 31 (w.heap.size + 2) w4 #[.string (str nm), v, u2, u3, u4] := by
  have tk := told_keep ht
  have hl := h.ob.lt
  exact h.ob.keep ((tk.2 _ (Nat.lt_of_lt_of_le hl hb.size) (fun e => by have := own_row h.row _ e; have := h.hk; omega)).trans (hb.block _ hl))
/-- Behind the marked one: what is lent, and what stayed. -/
theorem ltA_end {w W1 nm u2 u3 u4 v M} {V : World} {As : List GA} {n : Nat} (HML : M.length = n) (h : LtA w W1 nm u2 u3 u4 v M V) {w2 w4 : World} {b cp : Nat} (hb : Below V.heap.size V w2) (ho : w4.ownsRow W1.heap.size 59 3 (.slice (some ⟨b, 0, none⟩) (n + 1) cp) (n + 1) (M.flatMap aP ++ aP markA))
    (ht : (∃ g cap, v = .slice (some ⟨g, 0, none⟩) n cap ∧ Value.slice (some ⟨b, 0, none⟩) (n + 1) cp = .slice (some ⟨g, 0, none⟩) (n + 1) cap ∧ w2.grownBy w4 (some g)) ∨ (∃ cap, Value.slice (some ⟨b, 0, none⟩) (n + 1) cp = .slice (some ⟨w2.heap.size, 0, none⟩) (n + 1) cap ∧ w2.grownBy w4 none)) (hM : M.map Prod.fst = As) (z1 z2 : Value) :
    Chg (fun k => k = w.heap.size + 2 ∨ W1.heap.size ≤ k) W1 (w4.setCell ⟨w.heap.size + 2, 1, none⟩ z1) ∧ Chg (fun k => k = w.heap.size + 2 ∨ W1.heap.size ≤ k) W1 ((w4.setCell ⟨w.heap.size + 2, 1, none⟩ z1).setCell ⟨w.heap.size + 2, 1, none⟩ z2) ∧ BlkA 31 (w.heap.size + 2) ((w4.setCell ⟨w.heap.size + 2, 1, none⟩ z1).setCell ⟨w.heap.size + 2, 1, none⟩ z2) #[.string (str nm), z2, u2, u3, u4] ∧ LentA W1.heap.size ((w4.setCell ⟨w.heap.size + 2, 1, none⟩ z1).setCell ⟨w.heap.size + 2, 1, none⟩ z2) (some ⟨b, 0, none⟩) cp As := by
  subst HML
  have tk := told_keep ht
  have hk := h.hk
  have hsz := hb.size
  have ob := told_boxA h hb ht
  have set : ∀ k, k ≠ w.heap.size + 2 → ((w4.setCell ⟨w.heap.size + 2, 1, none⟩ z1).setCell ⟨w.heap.size + 2, 1, none⟩ z2).heap[k]? = w4.heap[k]? := fun k hk => (Below.heap_setCell _ ⟨w.heap.size + 2, 1, none⟩ _ k hk).trans (Below.heap_setCell w4 ⟨w.heap.size + 2, 1, none⟩ _ k hk)
  obtain ⟨row, hg, hrow⟩ := told_grown ht
  have c1 : Chg (fun k => k = w.heap.size + 2 ∨ W1.heap.size ≤ k) V w2 := Chg.of_below hb
  have c2 : Chg (fun k => k = w.heap.size + 2 ∨ W1.heap.size ≤ k) w2 w4 := Chg.grown hg fun k e => .inr (own_row h.row k (hrow k e))
  have c3 := ((h.chg.trans' c1).trans' c2).trans' (Chg.set w4 (.inl rfl) 1 z1)
  have hl : M.length = As.length := by rw [← hM, List.length_map]
  rw [hl] at ho
  have r1 := ownR_keep (w' := (w4.setCell ⟨w.heap.size + 2, 1, none⟩ z1).setCell ⟨w.heap.size + 2, 1, none⟩ z2) ho fun k e => set k (by have := own_row ho k e; omega)
  refine ⟨c3, c3.trans' (Chg.set _ (.inl rfl) 1 z2), (ob.set 1 z1).set 1 z2, b, M, rfl, own_row ho b rfl, row_cap ho (Nat.succ_pos _), hM, r1, fun p hp => ?_⟩
  have l := h.qs p hp
  exact l.keep fun k e => (set k (by have := (l.lt k e).1; omega)).trans ((tk.2 k (Nat.lt_of_lt_of_le (l.lt k e).2 hsz) (fun e2 => h.ap p hp k e2 e)).trans (hb.block k (l.lt k e).2))
theorem told_boxE {w W1 nm u1 u3 u4 v M} {V : World} (h : LtE w W1 nm u1 u3 u4 v M V) {w2 w4 : World} {v' : Value} {n : Nat} (hb : Below V.heap.size V w2)
    (ht : (∃ g cap, v = .slice (some ⟨g, 0, none⟩) n cap ∧ v' = .slice (some ⟨g, 0, none⟩) (n + 1) cap ∧ w2.grownBy w4 (some g)) ∨ (∃ cap, v' = .slice (some ⟨w2.heap.size, 0, none⟩) (n + 1) cap ∧ w2.grownBy w4 none)) : BlkA 31 (w.heap.size + 2) w4 #[.string (str nm), u1, v, u3, u4] := by
  have tk := told_keep ht
  have hl := h.ob.lt
  exact h.ob.keep ((tk.2 _ (Nat.lt_of_lt_of_le hl hb.size) (fun e => by have := own_row h.row _ e; have := h.hk; omega)).trans (hb.block _ hl))
/-- Behind the marked one: what is lent, and what stayed. -/
theorem ltE_end {w W1 nm u1 u3 u4 v M} {V : World} {As : List GE} {n : Nat} (HML : M.length = n) (h : LtE w W1 nm u1 u3 u4 v M V) {w2 w4 : World} {b cp : Nat} (hb : Below V.heap.size V w2) (ho : w4.ownsRow W1.heap.size 54 5 (.slice (some ⟨b, 0, none⟩) (n + 1) cp) (n + 1) (M.flatMap eP ++ eP markE))
    (ht : (∃ g cap, v = .slice (some ⟨g, 0, none⟩) n cap ∧ Value.slice (some ⟨b, 0, none⟩) (n + 1) cp = .slice (some ⟨g, 0, none⟩) (n + 1) cap ∧ w2.grownBy w4 (some g)) ∨ (∃ cap, Value.slice (some ⟨b, 0, none⟩) (n + 1) cp = .slice (some ⟨w2.heap.size, 0, none⟩) (n + 1) cap ∧ w2.grownBy w4 none)) (hM : M.map Prod.fst = As) (z1 z2 : Value) :
    Chg (fun k => k = w.heap.size + 2 ∨ W1.heap.size ≤ k) W1 (w4.setCell ⟨w.heap.size + 2, 2, none⟩ z1) ∧ Chg (fun k => k = w.heap.size + 2 ∨ W1.heap.size ≤ k) W1 ((w4.setCell ⟨w.heap.size + 2, 2, none⟩ z1).setCell ⟨w.heap.size + 2, 2, none⟩ z2) ∧ BlkA 31 (w.heap.size + 2) ((w4.setCell ⟨w.heap.size + 2, 2, none⟩ z1).setCell ⟨w.heap.size + 2, 2, none⟩ z2) #[.string (str nm), u1, z2, u3, u4] ∧ LentE W1.heap.size ((w4.setCell ⟨w.heap.size + 2, 2, none⟩ z1).setCell ⟨w.heap.size + 2, 2, none⟩ z2) (some ⟨b, 0, none⟩) cp As := by
  subst HML
  have tk := told_keep ht
  have hk := h.hk
  have hsz := hb.size
  have ob := told_boxE h hb ht
  have set : ∀ k, k ≠ w.heap.size + 2 → ((w4.setCell ⟨w.heap.size + 2, 2, none⟩ z1).setCell ⟨w.heap.size + 2, 2, none⟩ z2).heap[k]? = w4.heap[k]? := fun k hk => (Below.heap_setCell _ ⟨w.heap.size + 2, 2, none⟩ _ k hk).trans (Below.heap_setCell w4 ⟨w.heap.size + 2, 2, none⟩ _ k hk)
  obtain ⟨row, hg, hrow⟩ := told_grown ht
  have c1 : Chg (fun k => k = w.heap.size + 2 ∨ W1.heap.size ≤ k) V w2 := Chg.of_below hb
  have c2 : Chg (fun k => k = w.heap.size + 2 ∨ W1.heap.size ≤ k) w2 w4 := Chg.grown hg fun k e => .inr (own_row h.row k (hrow k e))
  have c3 := ((h.chg.trans' c1).trans' c2).trans' (Chg.set w4 (.inl rfl) 2 z1)
  have hl : M.length = As.length := by rw [← hM, List.length_map]
  rw [hl] at ho
  have r1 := ownR_keep (w' := (w4.setCell ⟨w.heap.size + 2, 2, none⟩ z1).setCell ⟨w.heap.size + 2, 2, none⟩ z2) ho fun k e => set k (by have := own_row ho k e; omega)
  refine ⟨c3, c3.trans' (Chg.set _ (.inl rfl) 2 z2), (ob.set 2 z1).set 2 z2, b, M, rfl, own_row ho b rfl, row_cap ho (Nat.succ_pos _), hM, r1, fun p hp => ?_⟩
  have l := h.qs p hp
  exact l.keep fun k e => (set k (by have := (l.lt k e).1; omega)).trans ((tk.2 k (Nat.lt_of_lt_of_le (l.lt k e).2 hsz) (fun e2 => h.ap p hp k e2 e)).trans (hb.block k (l.lt k e).2))
set_option maxRecDepth 100000 in
set_option maxHeartbeats 16000000 in
theorem lentGraph_any (g : GG) (a1 a2 a3 a4 : Option Addr) (c1 c2 c3 c4 : Nat) (w : World) (h : ArgG w a1 a2 a3 a4 c3 c4 g) (hL : Light g) :
    Calls Try.prog 17 #[.agg #[.string (str g.name), .slice a1 g.actors.length c1, .slice a2 g.edges.length c2, .slice a3 g.ins.length c3, .slice a4 g.outs.length c4]] w (LentGE g w) := by
  have LB0 : Hid (LB w #[.string (str g.name), .slice a1 g.actors.length c1, .slice a2 g.edges.length c2, .slice a3 g.ins.length c3, .slice a4 g.outs.length c4] (((w.alloc (.cells #[.string (str g.name), .slice a1 g.actors.length c1, .slice a2 g.edges.length c2, .slice a3 g.ins.length c3, .slice a4 g.outs.length c4] 31)).alloc (.cells #[.string ⟨#[]⟩, .slice none 0 0, .slice none 0 0, .slice none 0 0, .slice none 0 0] 31)).alloc (.cells #[.string (str g.name), .slice none 0 0, .slice none 0 0, .slice none 0 0, .slice none 0 0] 31))) := by
    have ba := (((Below.refl w.heap.size w).alloc (Nat.le_refl _) (.cells #[.string (str g.name), .slice a1 g.actors.length c1, .slice a2 g.edges.length c2, .slice a3 g.ins.length c3, .slice a4 g.outs.length c4] 31)).alloc (by simp) (.cells #[.string ⟨#[]⟩, .slice none 0 0, .slice none 0 0, .slice none 0 0, .slice none 0 0] 31)).alloc (by simp; omega) (.cells #[.string (str g.name), .slice none 0 0, .slice none 0 0, .slice none 0 0, .slice none 0 0] 31)
    have rb : BlkA 31 (w.heap.size + 1) (((w.alloc (.cells #[.string (str g.name), .slice a1 g.actors.length c1, .slice a2 g.edges.length c2, .slice a3 g.ins.length c3, .slice a4 g.outs.length c4] 31)).alloc (.cells #[.string ⟨#[]⟩, .slice none 0 0, .slice none 0 0, .slice none 0 0, .slice none 0 0] 31)).alloc (.cells #[.string (str g.name), .slice none 0 0, .slice none 0 0, .slice none 0 0, .slice none 0 0] 31)) #[.string ⟨#[]⟩, .slice none 0 0, .slice none 0 0, .slice none 0 0, .slice none 0 0] := by
      have h3 := (blkA_new 31 (w.alloc (.cells #[.string (str g.name), .slice a1 g.actors.length c1, .slice a2 g.edges.length c2, .slice a3 g.ins.length c3, .slice a4 g.outs.length c4] 31)) #[.string ⟨#[]⟩, .slice none 0 0, .slice none 0 0, .slice none 0 0, .slice none 0 0]).below ((Below.refl _ _).alloc (Nat.le_refl _) (.cells #[.string (str g.name), .slice none 0 0, .slice none 0 0, .slice none 0 0, .slice none 0 0] 31))
      rw [World.size_alloc] at h3
      exact h3
    exact ⟨((blkA_new 31 w #[.string (str g.name), .slice a1 g.actors.length c1, .slice a2 g.edges.length c2, .slice a3 g.ins.length c3, .slice a4 g.outs.length c4]).below ((Below.refl _ _).alloc (Nat.le_refl _) (.cells #[.string ⟨#[]⟩, .slice none 0 0, .slice none 0 0, .slice none 0 0, .slice none 0 0] 31))).below ((Below.refl _ _).alloc (Nat.le_refl _) (.cells #[.string (str g.name), .slice none 0 0, .slice none 0 0, .slice none 0 0, .slice none 0 0] 31)), rb, ba⟩
  have OB0 : Hid (BlkA 31 (w.heap.size + 2) (((w.alloc (.cells #[.string (str g.name), .slice a1 g.actors.length c1, .slice a2 g.edges.length c2, .slice a3 g.ins.length c3, .slice a4 g.outs.length c4] 31)).alloc (.cells #[.string ⟨#[]⟩, .slice none 0 0, .slice none 0 0, .slice none 0 0, .slice none 0 0] 31)).alloc (.cells #[.string (str g.name), .slice none 0 0, .slice none 0 0, .slice none 0 0, .slice none 0 0] 31)) #[.string (str g.name), .slice none 0 0, .slice none 0 0, .slice none 0 0, .slice none 0 0]) := by
    have h3 := blkA_new 31 ((w.alloc (.cells #[.string (str g.name), .slice a1 g.actors.length c1, .slice a2 g.edges.length c2, .slice a3 g.ins.length c3, .slice a4 g.outs.length c4] 31)).alloc (.cells #[.string ⟨#[]⟩, .slice none 0 0, .slice none 0 0, .slice none 0 0, .slice none 0 0] 31)) #[.string (str g.name), .slice none 0 0, .slice none 0 0, .slice none 0 0, .slice none 0 0]
    rw [World.size_alloc, World.size_alloc] at h3
    exact h3
  have HG := hiddenG h.gr
  have HLT := hiddenG hL
  have HN := hiddenG h.gr.nums
  have LI : Hid (∀ U, Below w.heap.size w U → Calls Try.prog 45 #[.slice a3 g.ins.length c3] U (LentPE g.ins U)) := fun U hb => lentPorts_any g.ins a3 _ c3 U rfl (h.gr.I.below hb) h.n3 hL.i
  have LO : Hid (∀ U, Below w.heap.size w U → Calls Try.prog 45 #[.slice a4 g.outs.length c4] U (LentPE g.outs U)) := fun U hb => lentPorts_any g.outs a4 _ c4 U rfl (h.gr.O.below hb) h.n4 hL.o
  have n1 := hL.a
  have n2 := hL.e
  have i1 : (g.actors.length : Int) ≤ 1048576 := by omega
  have i2 : (g.edges.length : Int) ≤ 1048576 := by omega
  obtain ⟨iA, hiA, hzA0, hzA1, hzA2⟩ := info_parts Try.infoA
  have JA := hiddenG hiA
  have JA0 := hiddenG hzA0
  have JA1 := hiddenG hzA1
  have JA2 := hiddenG hzA2
  obtain ⟨iE, hiE, hzE0, hzE1, hzE2⟩ := info_parts Try.infoE
  have JE := hiddenG hiE
  have JE0 := hiddenG hzE0
  have JE1 := hiddenG hzE1
  have JE2 := hiddenG hzE2
  clear h hL hiA hzA0 hzA1 hzA2 hiE hzE0 hzE1 hzE2
  have y0 := LB0.out.i.cell (k := 0) rfl
  go_enter Try.func17, Try.ntmps17
  go_upto_region 2 with fail
  generalize ((w.alloc (.cells #[.string (str g.name), .slice a1 g.actors.length c1, .slice a2 g.edges.length c2, .slice a3 g.ins.length c3, .slice a4 g.outs.length c4] 31)).alloc (.cells #[.string ⟨#[]⟩, .slice none 0 0, .slice none 0 0, .slice none 0 0, .slice none 0 0] 31)).alloc (.cells #[.string (str g.name), .slice none 0 0, .slice none 0 0, .slice none 0 0, .slice none 0 0] 31) = W1 at *
  have D0 : Hid (LtA w W1 g.name (.slice none 0 0) (.slice none 0 0) (.slice none 0 0) (.slice none 0 0) [] W1) := ⟨OB0.out, World.ownsRow_nil _ _ _ _, fun p hp => (by cases hp), fun p hp => (by cases hp), Chg.of_below (Below.refl _ _), OB0.out.lt⟩
  clear y0
  go_wp2
  go_loopg [4] g.actors.length (fun gk v wr => ∃ (k : Nat) (va : Option Addr) (vc : Nat) (M : List (GA × Value)), k ≤ g.actors.length ∧ gk = g.actors.length - k ∧ v = .int .i64 (k : Int) ∧ M.map Prod.fst = g.actors.take k ∧ LtA w W1 g.name (.slice none 0 0) (.slice none 0 0) (.slice none 0 0) (.slice va k vc) M wr)
  case atStart => exact ⟨0, none, 0, [], Nat.zero_le _, rfl, rfl, rfl, D0.out⟩
  case round =>
    obtain ⟨k, va, vc, M, hk, rfl, rfl, hM, hD⟩ := hrel
    have DD := hiddenG hD
    have HM := hiddenG hM
    have hml : M.length = k := by have e := congrArg List.length hM; rw [List.length_map, List.length_take] at e; omega
    have HML := hiddenG hml
    have BW := hiddenG (LB0.out.chg hD.chg hD.hk)
    have y1 : wr.cell? ⟨w.heap.size, 1, none⟩ = some (.slice a1 g.actors.length c1) := BW.out.i.cell rfl
    clear hM hD hml
    by_cases hlt : k < g.actors.length
    · have hki : (k : Int) < (g.actors.length : Int) := by omega
      rcases (HG.out.below BW.out.bel).A with e | ⟨b, off, rfl, hc⟩
      · rw [e] at hlt; exact absurd hlt (Nat.not_lt_zero _)
      obtain ⟨k0, k1, -, xa, xc, k2, k3⟩ := hc k hlt
      have HAR := hiddenG k3
      have TK := hiddenG (take_A hlt)
      generalize nthA g.actors k = E at *
      obtain ⟨en, tg, ps⟩ := E
      simp only at k0 k1 k2 HAR
      clear hc k3
      have bv := (Below.refl wr.heap.size wr).alloc (Nat.le_refl _) (.cells #[.string (str en), .int .u8 (tg : Int), .slice xa ps.length xc] 59)
      have BX := hiddenG (blkA_new 59 wr #[.string (str en), .int .u8 (tg : Int), .slice xa ps.length xc])
      have LE := hiddenG (lent_any xa ps ps.length xc _ (HAR.out.below bv))
      have BV := hiddenG bv
      have c2 := BX.out.cell (k := 2) rfl
      clear bv
      go_upto_region 6 with fail
      generalize wr.alloc (.cells #[.string (str en), .int .u8 (tg : Int), .slice xa ps.length xc] 59) = V at *
      clear k0 k1 k2 y1
      go_upto_region 7 with (go_at_call 28; (with_reducible refine LE.out.mono ?_); rintro e w5 ⟨gq, rfl, hq, b5⟩; have HQ5 := hiddenG hq; have B5 := hiddenG b5; have BX5 := hiddenG (BX.out.below b5); have c2' : w5.cell? ⟨wr.heap.size, 2, none⟩ = some (.slice xa ps.length xc) := BX5.out.cell rfl; have f2 := BX5.out.frozen 2; clear hq b5 c2)
      have B6 : Hid (Below wr.heap.size wr (w5.setCell ⟨wr.heap.size, 2, none⟩ (.slice (some ⟨gq, 0, none⟩) ps.length (ps.length + 4)))) := (BV.out.trans (B5.out.mono BV.out.size)).setCell (p := ⟨wr.heap.size, 2, none⟩) (Nat.le_refl _) _
      have BX6 := hiddenG (BX5.out.set 2 (.slice (some ⟨gq, 0, none⟩) ps.length (ps.length + 4)))
      have HLTV : Hid (wr.heap.size < V.heap.size) := BX.out.lt
      have Q6 : Hid (LentQ wr.heap.size (w5.setCell ⟨wr.heap.size, 2, none⟩ (.slice (some ⟨gq, 0, none⟩) ps.length (ps.length + 4))) (.slice (some ⟨gq, 0, none⟩) ps.length (ps.length + 4)) ps) := ⟨gq, rfl, (HQ5.out.keepB (Below.heap_setCell _ ⟨wr.heap.size, 2, none⟩ _ _ (Nat.ne_of_gt (Nat.lt_of_lt_of_le HLTV.out HQ5.out.1)))).base (Nat.le_of_lt HLTV.out)⟩
      clear c2' f2 HQ5 B5 BX5
      generalize w5.setCell ⟨wr.heap.size, 2, none⟩ (.slice (some ⟨gq, 0, none⟩) ps.length (ps.length + 4)) = w6 at *
      have ob6 := DD.out.ob.below B6.out
      have o1 : w6.cell? ⟨w.heap.size + 2, 1, none⟩ = some (.slice va k vc) := ob6.cell rfl
      have z0 := BX6.out.cell (k := 0) rfl
      have z1 := BX6.out.cell (k := 1) rfl
      have z2 := BX6.out.cell (k := 2) rfl
      clear ob6
      go_wp2_with (at_builtin; refine wpList_append_told _ rfl (.tmp 28) (.tmp 30) 27 rfl W1.heap.size 59 iA (.agg #[.string ⟨#[]⟩, .int .u8 0, .slice none 0 0]) 3 48 Try.underlying27 JA.out JA0.out JA1.out JA2.out rfl (by decide) (.slice va k vc) k (M.flatMap aP) rfl (by have r := owns_below DD.out.row (B6.out.alloc B6.out.size (.cells #[.string (str en), .int .u8 (tg : Int), .slice (some ⟨gq, 0, none⟩) ps.length (ps.length + 4)] 59)); rw [HML.out] at r; exact r) ⟨w6.heap.size, 0, none⟩ 1 1 (by decide) (aP (⟨en, tg, ps⟩, .slice (some ⟨gq, 0, none⟩) ps.length (ps.length + 4))) rfl rfl (cells_new w6 59 (aP (⟨en, tg, ps⟩, .slice (some ⟨gq, 0, none⟩) ps.length (ps.length + 4)))) (aP_one _ _ _ _) (by unfold maxLen; omega) (by omega) (Nat.le_trans DD.out.chg.size (Nat.le_trans B6.out.size (by rw [World.size_alloc]; exact Nat.le_succ _))) ?_; intro v' w4 ho ht; obtain ⟨D10, bk⟩ := DD.out.put (p := (⟨en, tg, ps⟩, .slice (some ⟨gq, 0, none⟩) ps.length (ps.length + 4))) (B6.out.alloc B6.out.size (.cells #[.string (str en), .int .u8 (tg : Int), .slice (some ⟨gq, 0, none⟩) ps.length (ps.length + 4)] 59)) (Q6.out.keep fun k e => Below.heap_alloc _ _ _ (Q6.out.lt k e).2) (by rw [HML.out]; exact ho) (by rw [HML.out]; exact ht); obtain ⟨va4, vc4, rfl⟩ := told_shape ht; have E10 := hiddenG D10; have s1 : w4.cell? ⟨w.heap.size + 2, 1, none⟩ = some (.slice va k vc) := bk.cell rfl; have f1 := bk.frozen 1; clear ho ht D10 bk)
      go_roundg (g.actors.length - (k + 1))
      case measure => omega
      case rel => exact ⟨k + 1, va4, vc4, M ++ [(⟨en, tg, ps⟩, .slice (some ⟨gq, 0, none⟩) ps.length (ps.length + 4))], by omega, rfl, by go_num, by rw [List.map_append, HM.out, TK.out]; rfl, E10.out⟩
    · have ek : k = g.actors.length := by omega
      subst ek
      have hki : ¬ (g.actors.length : Int) < (g.actors.length : Int) := by omega
      have hMe : M.map Prod.fst = g.actors := by rw [HM.out, List.take_length]
      have HME := hiddenG hMe
      clear hMe hk
      go_upto_region 8 with fail
      have o1 : wr.cell? ⟨w.heap.size + 2, 1, none⟩ = some (.slice va g.actors.length vc) := DD.out.ob.cell rfl
      go_upto_region 9 with (at_builtin; refine wpList_append_told _ rfl (.tmp 34) (.tmp 36) 27 rfl W1.heap.size 59 iA (.agg #[.string ⟨#[]⟩, .int .u8 0, .slice none 0 0]) 3 48 Try.underlying27 JA.out JA0.out JA1.out JA2.out rfl (by decide) (.slice va g.actors.length vc) g.actors.length (M.flatMap aP) rfl (by have r := owns_below DD.out.row ((Below.refl wr.heap.size wr).alloc (Nat.le_refl _) (.cells #[.string ⟨#[109, 97, 114, 107]⟩, .int .u8 99, .slice none 0 0] 59)); rw [HML.out] at r; exact r) ⟨wr.heap.size, 0, none⟩ 1 1 (by decide) (aP markA) rfl rfl (cells_new wr 59 (aP markA)) (aP_one _ _ _ _) (by unfold maxLen; omega) (by omega) (Nat.le_trans DD.out.chg.size (by rw [World.size_alloc]; exact Nat.le_succ _)) ?_; intro v' w4 ho ht; obtain ⟨va4, vc4, rfl⟩ := told_shape ht; have HO4 := hiddenG ho; have HT4 := hiddenG ht; have bk := told_boxA DD.out ((Below.refl wr.heap.size wr).alloc (Nat.le_refl _) (.cells #[.string ⟨#[109, 97, 114, 107]⟩, .int .u8 99, .slice none 0 0] 59)) ht; have OB4 := hiddenG bk; have s1 : w4.cell? ⟨w.heap.size + 2, 1, none⟩ = some (.slice va g.actors.length vc) := bk.cell rfl; have f1 := bk.frozen 1; have hcap := row_cap ho (by omega); clear ho ht bk o1)
      obtain ⟨b1, rfl, hbb, -⟩ := own_open HO4.out (by omega)
      have PT4 := hiddenG (ltA_end (HML := HML.out) DD.out ((Below.refl wr.heap.size wr).alloc (Nat.le_refl _) (.cells #[.string ⟨#[109, 97, 114, 107]⟩, .int .u8 99, .slice none 0 0] 59)) HO4.out HT4.out HME.out (.slice (some ⟨b1, 0, none⟩) (g.actors.length + 1) vc4) (.slice (some ⟨b1, 0, none⟩) g.actors.length vc4))
      have hcI : (g.actors.length : Int) ≤ (vc4 : Int) := by omega
      have OC4 := hiddenG (OB4.out.set 1 (.slice (some ⟨b1, 0, none⟩) (g.actors.length + 1) vc4))
      have s2 := OC4.out.cell (k := 1) rfl
      have f2 := OC4.out.frozen 1
      have yi : (w4.setCell ⟨w.heap.size + 2, 1, none⟩ (.slice (some ⟨b1, 0, none⟩) (g.actors.length + 1) vc4)).cell? ⟨w.heap.size, 1, none⟩ = some (.slice a1 g.actors.length c1) := (LB0.out.chg PT4.out.1 DD.out.hk).i.cell rfl
      go_upto_region 10 with fail
      generalize (w4.setCell ⟨w.heap.size + 2, 1, none⟩ (.slice (some ⟨b1, 0, none⟩) (g.actors.length + 1) vc4)).setCell ⟨w.heap.size + 2, 1, none⟩ (.slice (some ⟨b1, 0, none⟩) g.actors.length vc4) = W2 at *
      obtain ⟨e1, he1⟩ : ∃ q, q = vc4 := ⟨_, rfl⟩
      subst he1
      have LB1 := hiddenG (LB0.out.chg PT4.out.2.1 DD.out.hk)
      have LA1 := hiddenG PT4.out.2.2.2
      have OB1 := hiddenG PT4.out.2.2.1
      have NW1 : Hid (w.heap.size + 2 < W1.heap.size) := DD.out.hk
      have NW2 : Hid (W1.heap.size ≤ W2.heap.size) := PT4.out.2.1.size
      have D1 : Hid (LtE w W2 g.name (.slice (some ⟨b1, 0, none⟩) g.actors.length e1) (.slice none 0 0) (.slice none 0 0) (.slice none 0 0) [] W2) := ⟨OB1.out, World.ownsRow_nil _ _ _ _, fun p hp => (by cases hp), fun p hp => (by cases hp), Chg.of_below (Below.refl _ _), OB1.out.lt⟩
      clear s1 f1 s2 f2 yi hcI hcap hbb HO4 HT4 OB4 OC4 PT4 DD HM HML HME BW y1 hki OB1 D0 LB0
      go_wp2
      go_loopg [6] g.edges.length (fun gk v wr => ∃ (k : Nat) (va : Option Addr) (vc : Nat) (M : List (GE × Value)), k ≤ g.edges.length ∧ gk = g.edges.length - k ∧ v = .int .i64 (k : Int) ∧ M.map Prod.fst = g.edges.take k ∧ LtE w W2 g.name (.slice (some ⟨b1, 0, none⟩) g.actors.length e1) (.slice none 0 0) (.slice none 0 0) (.slice va k vc) M wr)
      case atStart => exact ⟨0, none, 0, [], Nat.zero_le _, rfl, rfl, rfl, D1.out⟩
      case round =>
        obtain ⟨k, va, vc, M, hk, rfl, rfl, hM, hD⟩ := hrel
        have DD := hiddenG hD
        have HM := hiddenG hM
        have hml : M.length = k := by have e := congrArg List.length hM; rw [List.length_map, List.length_take] at e; omega
        have HML := hiddenG hml
        have BW := hiddenG (LB1.out.chg hD.chg hD.hk)
        have y1 : wr.cell? ⟨w.heap.size, 2, none⟩ = some (.slice a2 g.edges.length c2) := BW.out.i.cell rfl
        clear hM hD hml
        by_cases hlt : k < g.edges.length
        · have hki : (k : Int) < (g.edges.length : Int) := by omega
          rcases (HG.out.below BW.out.bel).E with e | ⟨b, off, rfl, hc⟩
          · rw [e] at hlt; exact absurd hlt (Nat.not_lt_zero _)
          obtain ⟨k0, k1, k1b, k1c, xa, xc, k2, k3⟩ := hc k hlt
          have HAR := hiddenG k3
          have TK := hiddenG (take_E hlt)
          generalize nthE g.edges k = E at *
          obtain ⟨ef, efp, et, etp, ps⟩ := E
          simp only at k0 k1 k2 HAR
          clear hc k3
          have bv := (Below.refl wr.heap.size wr).alloc (Nat.le_refl _) (.cells #[.int .i64 ef, .int .i64 efp, .int .i64 et, .int .i64 etp, .slice xa ps.length xc] 54)
          have BX := hiddenG (blkA_new 54 wr #[.int .i64 ef, .int .i64 efp, .int .i64 et, .int .i64 etp, .slice xa ps.length xc])
          have LE := hiddenG (lent_any xa ps ps.length xc _ (HAR.out.below bv))
          have BV := hiddenG bv
          have c2 := BX.out.cell (k := 4) rfl
          clear bv
          go_upto_region 14 with fail
          generalize wr.alloc (.cells #[.int .i64 ef, .int .i64 efp, .int .i64 et, .int .i64 etp, .slice xa ps.length xc] 54) = V at *
          clear k0 k1 k2 k1b k1c y1
          go_upto_region 15 with (go_at_call 28; (with_reducible refine LE.out.mono ?_); rintro e w5 ⟨gq, rfl, hq, b5⟩; have HQ5 := hiddenG hq; have B5 := hiddenG b5; have BX5 := hiddenG (BX.out.below b5); have c2' : w5.cell? ⟨wr.heap.size, 4, none⟩ = some (.slice xa ps.length xc) := BX5.out.cell rfl; have f2 := BX5.out.frozen 4; clear hq b5 c2)
          have B6 : Hid (Below wr.heap.size wr (w5.setCell ⟨wr.heap.size, 4, none⟩ (.slice (some ⟨gq, 0, none⟩) ps.length (ps.length + 4)))) := (BV.out.trans (B5.out.mono BV.out.size)).setCell (p := ⟨wr.heap.size, 4, none⟩) (Nat.le_refl _) _
          have BX6 := hiddenG (BX5.out.set 4 (.slice (some ⟨gq, 0, none⟩) ps.length (ps.length + 4)))
          have HLTV : Hid (wr.heap.size < V.heap.size) := BX.out.lt
          have Q6 : Hid (LentQ wr.heap.size (w5.setCell ⟨wr.heap.size, 4, none⟩ (.slice (some ⟨gq, 0, none⟩) ps.length (ps.length + 4))) (.slice (some ⟨gq, 0, none⟩) ps.length (ps.length + 4)) ps) := ⟨gq, rfl, (HQ5.out.keepB (Below.heap_setCell _ ⟨wr.heap.size, 4, none⟩ _ _ (Nat.ne_of_gt (Nat.lt_of_lt_of_le HLTV.out HQ5.out.1)))).base (Nat.le_of_lt HLTV.out)⟩
          clear c2' f2 HQ5 B5 BX5
          generalize w5.setCell ⟨wr.heap.size, 4, none⟩ (.slice (some ⟨gq, 0, none⟩) ps.length (ps.length + 4)) = w6 at *
          have ob6 := DD.out.ob.below B6.out
          have o1 : w6.cell? ⟨w.heap.size + 2, 2, none⟩ = some (.slice va k vc) := ob6.cell rfl
          have z0 := BX6.out.cell (k := 0) rfl
          have z1 := BX6.out.cell (k := 1) rfl
          have z2 := BX6.out.cell (k := 2) rfl
          have z3 := BX6.out.cell (k := 3) rfl
          have z4 := BX6.out.cell (k := 4) rfl
          clear ob6
          go_wp2_with (at_builtin; refine wpList_append_told _ rfl (.tmp 63) (.tmp 65) 28 rfl W2.heap.size 54 iE (.agg #[.int .i64 0, .int .i64 0, .int .i64 0, .int .i64 0, .slice none 0 0]) 5 56 Try.underlying28 JE.out JE0.out JE1.out JE2.out rfl (by decide) (.slice va k vc) k (M.flatMap eP) rfl (by have r := owns_below DD.out.row (B6.out.alloc B6.out.size (.cells #[.int .i64 ef, .int .i64 efp, .int .i64 et, .int .i64 etp, .slice (some ⟨gq, 0, none⟩) ps.length (ps.length + 4)] 54)); rw [HML.out] at r; exact r) ⟨w6.heap.size, 0, none⟩ 1 1 (by decide) (eP (⟨ef, efp, et, etp, ps⟩, .slice (some ⟨gq, 0, none⟩) ps.length (ps.length + 4))) rfl rfl (cells_new w6 54 (eP (⟨ef, efp, et, etp, ps⟩, .slice (some ⟨gq, 0, none⟩) ps.length (ps.length + 4)))) (eP_one _ _ _ _) (by unfold maxLen; omega) (by omega) (Nat.le_trans DD.out.chg.size (Nat.le_trans B6.out.size (by rw [World.size_alloc]; exact Nat.le_succ _))) ?_; intro v' w4 ho ht; obtain ⟨D10, bk⟩ := DD.out.put (p := (⟨ef, efp, et, etp, ps⟩, .slice (some ⟨gq, 0, none⟩) ps.length (ps.length + 4))) (B6.out.alloc B6.out.size (.cells #[.int .i64 ef, .int .i64 efp, .int .i64 et, .int .i64 etp, .slice (some ⟨gq, 0, none⟩) ps.length (ps.length + 4)] 54)) (Q6.out.keep fun k e => Below.heap_alloc _ _ _ (Q6.out.lt k e).2) (by rw [HML.out]; exact ho) (by rw [HML.out]; exact ht); obtain ⟨va4, vc4, rfl⟩ := told_shape ht; have E10 := hiddenG D10; have s1 : w4.cell? ⟨w.heap.size + 2, 2, none⟩ = some (.slice va k vc) := bk.cell rfl; have f1 := bk.frozen 2; clear ho ht D10 bk)
          go_roundg (g.edges.length - (k + 1))
          case measure => omega
          case rel => exact ⟨k + 1, va4, vc4, M ++ [(⟨ef, efp, et, etp, ps⟩, .slice (some ⟨gq, 0, none⟩) ps.length (ps.length + 4))], by omega, rfl, by go_num, by rw [List.map_append, HM.out, TK.out]; rfl, E10.out⟩
        · have ek : k = g.edges.length := by omega
          subst ek
          have hki : ¬ (g.edges.length : Int) < (g.edges.length : Int) := by omega
          have hMe : M.map Prod.fst = g.edges := by rw [HM.out, List.take_length]
          have HME := hiddenG hMe
          clear hMe hk
          go_upto_region 16 with fail
          have o1 : wr.cell? ⟨w.heap.size + 2, 2, none⟩ = some (.slice va g.edges.length vc) := DD.out.ob.cell rfl
          go_upto_region 17 with (at_builtin; refine wpList_append_told _ rfl (.tmp 69) (.tmp 71) 28 rfl W2.heap.size 54 iE (.agg #[.int .i64 0, .int .i64 0, .int .i64 0, .int .i64 0, .slice none 0 0]) 5 56 Try.underlying28 JE.out JE0.out JE1.out JE2.out rfl (by decide) (.slice va g.edges.length vc) g.edges.length (M.flatMap eP) rfl (by have r := owns_below DD.out.row ((Below.refl wr.heap.size wr).alloc (Nat.le_refl _) (.cells #[.int .i64 (-7770777), .int .i64 0, .int .i64 0, .int .i64 0, .slice none 0 0] 54)); rw [HML.out] at r; exact r) ⟨wr.heap.size, 0, none⟩ 1 1 (by decide) (eP markE) rfl rfl (cells_new wr 54 (eP markE)) (eP_one _ _ _ _) (by unfold maxLen; omega) (by omega) (Nat.le_trans DD.out.chg.size (by rw [World.size_alloc]; exact Nat.le_succ _)) ?_; intro v' w4 ho ht; obtain ⟨va4, vc4, rfl⟩ := told_shape ht; have HO4 := hiddenG ho; have HT4 := hiddenG ht; have bk := told_boxE DD.out ((Below.refl wr.heap.size wr).alloc (Nat.le_refl _) (.cells #[.int .i64 (-7770777), .int .i64 0, .int .i64 0, .int .i64 0, .slice none 0 0] 54)) ht; have OB4 := hiddenG bk; have s1 : w4.cell? ⟨w.heap.size + 2, 2, none⟩ = some (.slice va g.edges.length vc) := bk.cell rfl; have f1 := bk.frozen 2; have hcap := row_cap ho (by omega); clear ho ht bk o1)
          obtain ⟨b2, rfl, hbb, -⟩ := own_open HO4.out (by omega)
          have PT4 := hiddenG (ltE_end (HML := HML.out) DD.out ((Below.refl wr.heap.size wr).alloc (Nat.le_refl _) (.cells #[.int .i64 (-7770777), .int .i64 0, .int .i64 0, .int .i64 0, .slice none 0 0] 54)) HO4.out HT4.out HME.out (.slice (some ⟨b2, 0, none⟩) (g.edges.length + 1) vc4) (.slice (some ⟨b2, 0, none⟩) g.edges.length vc4))
          have hcI : (g.edges.length : Int) ≤ (vc4 : Int) := by omega
          have OC4 := hiddenG (OB4.out.set 2 (.slice (some ⟨b2, 0, none⟩) (g.edges.length + 1) vc4))
          have s2 := OC4.out.cell (k := 2) rfl
          have f2 := OC4.out.frozen 2
          have yi : (w4.setCell ⟨w.heap.size + 2, 2, none⟩ (.slice (some ⟨b2, 0, none⟩) (g.edges.length + 1) vc4)).cell? ⟨w.heap.size, 2, none⟩ = some (.slice a2 g.edges.length c2) := (LB1.out.chg PT4.out.1 DD.out.hk).i.cell rfl
          go_upto_region 18 with fail
          generalize (w4.setCell ⟨w.heap.size + 2, 2, none⟩ (.slice (some ⟨b2, 0, none⟩) (g.edges.length + 1) vc4)).setCell ⟨w.heap.size + 2, 2, none⟩ (.slice (some ⟨b2, 0, none⟩) g.edges.length vc4) = W3 at *
          obtain ⟨e2, he2⟩ : ∃ q, q = vc4 := ⟨_, rfl⟩
          subst he2
          have LB3 := hiddenG (LB1.out.chg PT4.out.2.1 DD.out.hk)
          have LE3 := hiddenG PT4.out.2.2.2
          have OB3 := hiddenG PT4.out.2.2.1
          have NW3 : Hid (W2.heap.size ≤ W3.heap.size) := PT4.out.2.1.size
          have LA3 : Hid (LentA W1.heap.size W3 (some ⟨b1, 0, none⟩) e1 g.actors) := LA1.out.keep fun k h1 h2 => PT4.out.2.1.block k h2 (fun e => by have := NW1.out; omega)
          clear s1 f1 s2 f2 yi hcI hcap hbb HO4 HT4 OB4 OC4 PT4 DD HM HML HME BW y1 hki D1 LB1 LA1
          have q3 : W3.cell? ⟨w.heap.size, 3, none⟩ = some (.slice a3 g.ins.length c3) := LB3.out.i.cell rfl
          have LI3 := hiddenG (LI.out W3 LB3.out.bel)
          go_upto_region 19 with (go_at_call 45; (with_reducible refine LI3.out.mono ?_); rintro e w5 ⟨x3, e3, rfl, hP, b5⟩; have P5 := hiddenG hP; have B5 := hiddenG b5; have ob5 := OB3.out.below b5; have OB5 := hiddenG ob5; have s3 : w5.cell? ⟨w.heap.size + 2, 3, none⟩ = some (.slice none 0 0) := ob5.cell rfl; have f3 := ob5.frozen 3; clear hP b5 ob5 q3)
          have LB5 := hiddenG ((LB3.out.below B5.out).set 3 (.slice x3 g.ins.length e3))
          have OC5 := hiddenG (OB5.out.set 3 (.slice x3 g.ins.length e3))
          have N5 : Hid (w.heap.size + 2 < W3.heap.size) := OB3.out.lt
          have K5 : Hid (∀ k, k < W3.heap.size → k ≠ w.heap.size + 2 → (w5.setCell ⟨w.heap.size + 2, 3, none⟩ (.slice x3 g.ins.length e3)).heap[k]? = W3.heap[k]?) := fun k h1 h2 => (Below.heap_setCell _ ⟨w.heap.size + 2, 3, none⟩ _ _ h2).trans (B5.out.block k h1)
          have P6 : Hid (LentP W3.heap.size (w5.setCell ⟨w.heap.size + 2, 3, none⟩ (.slice x3 g.ins.length e3)) x3 e3 g.ins) := P5.out.keep fun k h1 h2 => Below.heap_setCell _ ⟨w.heap.size + 2, 3, none⟩ _ _ (Nat.ne_of_gt (Nat.lt_of_lt_of_le N5.out h1))
          have A6 : Hid (LentA W1.heap.size (w5.setCell ⟨w.heap.size + 2, 3, none⟩ (.slice x3 g.ins.length e3)) (some ⟨b1, 0, none⟩) e1 g.actors) := LA3.out.keep fun k h1 h2 => K5.out k h2 (Nat.ne_of_gt (Nat.lt_of_lt_of_le NW1.out h1))
          have E6 : Hid (LentE W2.heap.size (w5.setCell ⟨w.heap.size + 2, 3, none⟩ (.slice x3 g.ins.length e3)) (some ⟨b2, 0, none⟩) e2 g.edges) := LE3.out.keep fun k h1 h2 => K5.out k h2 (Nat.ne_of_gt (Nat.lt_of_lt_of_le (Nat.lt_of_lt_of_le NW1.out NW2.out) h1))
          have Z5 : Hid (W3.heap.size ≤ (w5.setCell ⟨w.heap.size + 2, 3, none⟩ (.slice x3 g.ins.length e3)).heap.size) := by show _ ≤ _; rw [World.size_setCell]; exact B5.out.size
          clear s3 f3 P5 B5 OB5 LB3 OB3 LA3 LE3 K5 LI3
          generalize w5.setCell ⟨w.heap.size + 2, 3, none⟩ (.slice x3 g.ins.length e3) = w6 at *
          have q4 : w6.cell? ⟨w.heap.size, 4, none⟩ = some (.slice a4 g.outs.length c4) := LB5.out.i.cell rfl
          have LO6 := hiddenG (LO.out w6 LB5.out.bel)
          go_upto_region 20 with (go_at_call 45; (with_reducible refine LO6.out.mono ?_); rintro e w7 ⟨x4, e4, rfl, hP, b5⟩; have P7 := hiddenG hP; have B7 := hiddenG b5; have ob5 := OC5.out.below b5; have OB7 := hiddenG ob5; have s3 : w7.cell? ⟨w.heap.size + 2, 4, none⟩ = some (.slice none 0 0) := ob5.cell rfl; have f3 := ob5.frozen 4; clear hP b5 ob5 q4)
          have LB7 := hiddenG ((LB5.out.below B7.out).set 4 (.slice x4 g.outs.length e4))
          have OC7 := hiddenG (OB7.out.set 4 (.slice x4 g.outs.length e4))
          have N7 : Hid (w.heap.size + 2 < w6.heap.size) := OC5.out.lt
          have K7 : Hid (∀ k, k < w6.heap.size → k ≠ w.heap.size + 2 → (w7.setCell ⟨w.heap.size + 2, 4, none⟩ (.slice x4 g.outs.length e4)).heap[k]? = w6.heap[k]?) := fun k h1 h2 => (Below.heap_setCell _ ⟨w.heap.size + 2, 4, none⟩ _ _ h2).trans (B7.out.block k h1)
          have O8 : Hid (LentP w6.heap.size (w7.setCell ⟨w.heap.size + 2, 4, none⟩ (.slice x4 g.outs.length e4)) x4 e4 g.outs) := P7.out.keep fun k h1 h2 => Below.heap_setCell _ ⟨w.heap.size + 2, 4, none⟩ _ _ (Nat.ne_of_gt (Nat.lt_of_lt_of_le N7.out h1))
          have P8 := hiddenG (P6.out.keep (w' := w7.setCell ⟨w.heap.size + 2, 4, none⟩ (.slice x4 g.outs.length e4)) fun k h1 h2 => K7.out k h2 (Nat.ne_of_gt (Nat.lt_of_lt_of_le N5.out h1)))
          have A8 := hiddenG (A6.out.keep (w' := w7.setCell ⟨w.heap.size + 2, 4, none⟩ (.slice x4 g.outs.length e4)) fun k h1 h2 => K7.out k h2 (Nat.ne_of_gt (Nat.lt_of_lt_of_le NW1.out h1)))
          have E8 := hiddenG (E6.out.keep (w' := w7.setCell ⟨w.heap.size + 2, 4, none⟩ (.slice x4 g.outs.length e4)) fun k h1 h2 => K7.out k h2 (Nat.ne_of_gt (Nat.lt_of_lt_of_le (Nat.lt_of_lt_of_le NW1.out NW2.out) h1)))
          clear s3 f3 P7 B7 OB7 LB5 OC5 P6 A6 E6 K7 LO6
          generalize w7.setCell ⟨w.heap.size + 2, 4, none⟩ (.slice x4 g.outs.length e4) = w8 at *
          have s0 : w8.cell? ⟨w.heap.size + 2, 0, none⟩ = some (.string (str g.name)) := OC7.out.cell rfl
          have s1 : w8.cell? ⟨w.heap.size + 2, 1, none⟩ = some (.slice (some ⟨b1, 0, none⟩) g.actors.length e1) := OC7.out.cell rfl
          have s2 : w8.cell? ⟨w.heap.size + 2, 2, none⟩ = some (.slice (some ⟨b2, 0, none⟩) g.edges.length e2) := OC7.out.cell rfl
          have s3 : w8.cell? ⟨w.heap.size + 2, 3, none⟩ = some (.slice x3 g.ins.length e3) := OC7.out.cell rfl
          have s4 : w8.cell? ⟨w.heap.size + 2, 4, none⟩ = some (.slice x4 g.outs.length e4) := OC7.out.cell rfl
          go_wp2_with (refine wpList_storeW _ rfl 31 (.tmp 2) (.tmp 89) rfl rfl (w.heap.size + 1) 31 _ _ rfl rfl LB7.out.r sizG rfl rfl ?_; intro w9 hN hU; have N9 := hiddenG hN; have U9 := hiddenG hU; clear hN hU)
          have t0 : w9.cell? ⟨w.heap.size + 1, 0, none⟩ = some (.string (str g.name)) := N9.out.cell rfl
          have t1 : w9.cell? ⟨w.heap.size + 1, 1, none⟩ = some (.slice (some ⟨b1, 0, none⟩) g.actors.length e1) := N9.out.cell rfl
          have t2 : w9.cell? ⟨w.heap.size + 1, 2, none⟩ = some (.slice (some ⟨b2, 0, none⟩) g.edges.length e2) := N9.out.cell rfl
          have t3 : w9.cell? ⟨w.heap.size + 1, 3, none⟩ = some (.slice x3 g.ins.length e3) := N9.out.cell rfl
          have t4 : w9.cell? ⟨w.heap.size + 1, 4, none⟩ = some (.slice x4 g.outs.length e4) := N9.out.cell rfl
          refine bodyPost_ret (v := .agg #[.string (str g.name), .slice (some ⟨b1, 0, none⟩) g.actors.length e1, .slice (some ⟨b2, 0, none⟩) g.edges.length e2, .slice x3 g.ins.length e3, .slice x4 g.outs.length e4]) (by simp [results, Try.results17, go_sem, t0, t1, t2, t3, t4]) rfl ?_
          have lo : w.heap.size + 1 < W1.heap.size := Nat.lt_trans (Nat.lt_succ_self _) NW1.out
          have l2 := Nat.lt_of_lt_of_le lo NW2.out
          have l3 := Nat.lt_of_lt_of_le l2 NW3.out
          have l4 := Nat.lt_of_lt_of_le l3 Z5.out
          have kp : ∀ B k, w.heap.size + 1 < B → B ≤ k → k < w8.heap.size → w9.heap[k]? = w8.heap[k]? := fun B k h0 h1 h2 => U9.out.block k h2 (Nat.ne_of_gt (Nat.lt_of_lt_of_le h0 h1))
          have up : ∀ {B : Nat}, w.heap.size + 1 < B → w.heap.size ≤ B := fun h => Nat.le_of_lt (Nat.lt_trans (Nat.lt_succ_self _) h)
          exact ⟨_, _, _, _, _, _, _, _, rfl, ⟨(A8.out.keep fun k h1 h2 => kp _ k lo h1 h2).base (up lo), (E8.out.keep fun k h1 h2 => kp _ k l2 h1 h2).base (up l2), (P8.out.keep fun k h1 h2 => kp _ k l3 h1 h2).base (up l3), (O8.out.keep fun k h1 h2 => kp _ k l4 h1 h2).base (up l4)⟩, LB7.out.bel.trans (U9.out.below (Nat.le_succ _) LB7.out.bel.size)⟩
theorem rletter_any (b : Int) (w : World) : Calls Try.prog 84 #[.int .u8 b] w fun e w' => e = .returned (.bool (letB b)) ∧ w = w' := by
  by_cases h1 : (97 : Int) ≤ b <;> by_cases h2 : b ≤ 122 <;>
  · have e : letB b = (decide (97 ≤ b) && decide (b ≤ 122)) := rfl
    simp only [h1, h2, decide_true, decide_false, Bool.and_true, Bool.and_false] at e
    rw [e]
    go_enter Try.func84, Try.ntmps84
    go_wp2
    go_ret
    exact ⟨rfl, rfl⟩
theorem rdigit_any (b : Int) (w : World) : Calls Try.prog 98 #[.int .u8 b] w fun e w' => e = .returned (.bool (digB b)) ∧ w = w' := by
  by_cases h1 : (48 : Int) ≤ b <;> by_cases h2 : b ≤ 57 <;>
  · have e : digB b = (decide (48 ≤ b) && decide (b ≤ 57)) := rfl
    simp only [h1, h2, decide_true, decide_false, Bool.and_true, Bool.and_false] at e
    rw [e]
    go_enter Try.func98, Try.ntmps98
    go_wp2
    go_ret
    exact ⟨rfl, rfl⟩
theorem rinside_any (b : Int) (w : World) : Calls Try.prog 85 #[.int .u8 b] w fun e w' => e = .returned (.bool (wordB b)) ∧ w = w' := by
  have e : wordB b = (letB b || digB b || decide (b = 95)) := rfl
  rw [e]
  clear e
  have h1 := hidden (rletter_any b)
  have h2 := hidden (rdigit_any b)
  generalize letB b = x at *
  generalize digB b = y at *
  cases x <;> cases y
  · by_cases h3 : b = 95
    · subst h3
      go_enter Try.func85, Try.ntmps85
      go_wp2_with (first
        | (go_at_call 98; (with_reducible refine (h2.out _).mono ?_); rintro e w' ⟨rfl, rfl⟩)
        | (go_at_call 84; (with_reducible refine (h1.out _).mono ?_); rintro e w' ⟨rfl, rfl⟩))
      go_ret
      exact ⟨rfl, rfl⟩
    · have d3 : decide (b = 95) = false := decide_eq_false h3
      go_enter Try.func85, Try.ntmps85
      go_wp2_with (first
        | (go_at_call 98; (with_reducible refine (h2.out _).mono ?_); rintro e w' ⟨rfl, rfl⟩)
        | (go_at_call 84; (with_reducible refine (h1.out _).mono ?_); rintro e w' ⟨rfl, rfl⟩))
      go_ret
      exact ⟨by simp [h3], rfl⟩
  all_goals
    go_enter Try.func85, Try.ntmps85
    go_wp2_with (first
      | (go_at_call 98; (with_reducible refine (h2.out _).mono ?_); rintro e w' ⟨rfl, rfl⟩)
      | (go_at_call 84; (with_reducible refine (h1.out _).mono ?_); rintro e w' ⟨rfl, rfl⟩))
    go_ret
    exact ⟨rfl, rfl⟩
theorem row_next {p : Int → Bool} {l : List UInt8} {i : Nat} (h : i ≤ rowN p l) (hi : i < l.length) (hp : p (by8 l i) = true) : i + 1 ≤ rowN p l := by
  rcases Nat.lt_or_ge i (rowN p l) with h1 | h1
  · exact h1
  · have e : rowN p l = i := by omega
    have := rowN_out p l (by omega)
    rw [e, hp] at this
    cases this
set_option maxHeartbeats 1000000 in
theorem rname_any (l : List UInt8) (w : World) : Calls Try.prog 67 #[.string (str l)] w fun e w' => e = .returned (.bool (nameB l)) ∧ w = w' := by
  have e1 := str_size l
  have en : nameB l = (decide (l.length ≤ 16) && (letB (by8 l 0) && decide (rowN wordB l = l.length))) := rfl
  by_cases h0 : l.length = 0
  · have i1 : (l.length : Int) < 1 := by omega
    have e2 : nameB l = false := by
      have : l = [] := List.eq_nil_of_length_eq_zero h0
      subst this; rfl
    rw [e2]
    go_enter Try.func67, Try.ntmps67
    go_wp2
    go_ret
    exact ⟨rfl, rfl⟩
  have i1 : ¬ ((l.length : Int) < 1) := by omega
  have i1' : decide ((l.length : Int) < 1) = false := decide_eq_false i1
  by_cases h1 : l.length ≤ 16
  · have i2 : ¬ ((16 : Int) < (l.length : Int)) := by omega
    have i2' : decide ((16 : Int) < (l.length : Int)) = false := decide_eq_false i2
    have g0 := str_get l 0 (by rw [e1]; omega)
    have i3 : (0 : Int) < (l.length : Int) := by omega
    have HL := hidden (rletter_any (by8 l 0))
    rw [decide_eq_true h1, Bool.true_and] at en
    by_cases hl : letB (by8 l 0) = true
    · rw [hl] at HL
      rw [hl, Bool.true_and] at en
      rw [en]
      clear en hl
      have HR := hidden (fun i => row_next (p := wordB) (l := l) (i := i))
      have HO := hidden (rowN_le wordB l)
      generalize hN : rowN wordB l = N at *
      go_enter Try.func67, Try.ntmps67
      go_wp2_with (go_at_call 84; (with_reducible refine (HL.out _).mono ?_); rintro e w' ⟨rfl, rfl⟩)
      go_loopg [3] l.length (fun gk v wr => ∃ i, i ≤ l.length ∧ gk = l.length - i ∧ v = .int .i64 i ∧ wr = w ∧ i ≤ N)
      case atStart => exact ⟨0, Nat.zero_le _, rfl, rfl, rfl, Nat.zero_le _⟩
      case round =>
        obtain ⟨i, hi, rfl, rfl, rfl, hiN⟩ := hrel
        by_cases hlt : i < l.length
        · have j1 : (i : Int) < (l.length : Int) := by omega
          have gi := str_get l i (by rw [e1]; exact hlt)
          have HI := hidden (rinside_any (by8 l i))
          by_cases hw : wordB (by8 l i) = true
          · have HN : Hid (i + 1 ≤ N) := HR.out i hiN hlt hw
            rw [hw] at HI
            clear hw HR hN
            go_wp2_with (go_at_call 85; (with_reducible refine (HI.out _).mono ?_); rintro e w' ⟨rfl, rfl⟩)
            go_roundg (l.length - (i + 1))
            case measure => omega
            case rel => exact ⟨i + 1, by omega, rfl, by go_num, rfl, HN.out⟩
          · have hw' : wordB (by8 l i) = false := by simpa using hw
            have HN : Hid (N ≠ l.length) := by
              intro e
              have := rowN_in wordB l i (by rw [hN]; omega)
              exact hw this
            rw [hw'] at HI
            clear hw hw' HR hN
            go_wp2_with (go_at_call 85; (with_reducible refine (HI.out _).mono ?_); rintro e w' ⟨rfl, rfl⟩)
            go_ret
            exact ⟨by rw [decide_eq_false HN.out]; rfl, rfl⟩
        · have ei : i = l.length := by omega
          subst ei
          have jn : ¬ ((l.length : Int) < (l.length : Int)) := by omega
          have HN : Hid (N = l.length) := by show N = _; have := HO.out; omega
          clear hN HR
          go_wp2
          go_ret
          exact ⟨by rw [decide_eq_true HN.out]; rfl, rfl⟩
    · have hl' : letB (by8 l 0) = false := by simpa using hl
      rw [hl'] at HL
      rw [hl', Bool.false_and] at en
      rw [en]
      go_enter Try.func67, Try.ntmps67
      go_wp2_with (go_at_call 84; (with_reducible refine (HL.out _).mono ?_); rintro e w' ⟨rfl, rfl⟩)
      go_ret
      exact ⟨rfl, rfl⟩
  · have i2 : (16 : Int) < (l.length : Int) := by omega
    rw [decide_eq_false h1, Bool.false_and] at en
    rw [en]
    go_enter Try.func67, Try.ntmps67
    go_wp2
    go_ret
    exact ⟨rfl, rfl⟩
theorem any_yesE {Es : List GE} {n j : Nat} {P : GE → Bool} (hj : j < n) (hn : n ≤ Es.length) (h : P (nthE Es j) = true) : (Es.take n).any P = true := by
  rw [List.any_eq_true]
  exact ⟨nthE Es j, by rw [nthE_get (by omega)]; exact List.mem_iff_getElem.2 ⟨j, by rw [List.length_take]; omega, by rw [List.getElem_take]⟩, h⟩
theorem any_noE {Es : List GE} {n : Nat} {P : GE → Bool} (hn : n ≤ Es.length) (h : ∀ j, j < n → P (nthE Es j) = false) : (Es.take n).any P = false := by
  rw [List.any_eq_false]
  intro x hx
  obtain ⟨j, hj, rfl⟩ := List.mem_iff_getElem.1 hx
  rw [List.length_take] at hj
  rw [List.getElem_take, ← nthE_get (by omega), h j (by omega)]
  decide
theorem any_yesP {Es : List GP} {n j : Nat} {P : GP → Bool} (hj : j < n) (hn : n ≤ Es.length) (h : P (nthP Es j) = true) : (Es.take n).any P = true := by
  rw [List.any_eq_true]
  exact ⟨nthP Es j, by rw [nthP_get (by omega)]; exact List.mem_iff_getElem.2 ⟨j, by rw [List.length_take]; omega, by rw [List.getElem_take]⟩, h⟩
theorem any_noP {Es : List GP} {n : Nat} {P : GP → Bool} (hn : n ≤ Es.length) (h : ∀ j, j < n → P (nthP Es j) = false) : (Es.take n).any P = false := by
  rw [List.any_eq_false]
  intro x hx
  obtain ⟨j, hj, rfl⟩ := List.mem_iff_getElem.1 hx
  rw [List.length_take] at hj
  rw [List.getElem_take, ← nthP_get (by omega), h j (by omega)]
  decide
theorem any_yesA {Es : List GA} {n j : Nat} {P : GA → Bool} (hj : j < n) (hn : n ≤ Es.length) (h : P (nthA Es j) = true) : (Es.take n).any P = true := by
  rw [List.any_eq_true]
  exact ⟨nthA Es j, by rw [nthA_get (by omega)]; exact List.mem_iff_getElem.2 ⟨j, by rw [List.length_take]; omega, by rw [List.getElem_take]⟩, h⟩
theorem any_noA {Es : List GA} {n : Nat} {P : GA → Bool} (hn : n ≤ Es.length) (h : ∀ j, j < n → P (nthA Es j) = false) : (Es.take n).any P = false := by
  rw [List.any_eq_false]
  intro x hx
  obtain ⟨j, hj, rfl⟩ := List.mem_iff_getElem.1 hx
  rw [List.length_take] at hj
  rw [List.getElem_take, ← nthA_get (by omega), h j (by omega)]
  decide
/-- The box of a graph stands, and so does all that is old. -/
def GBox (w : World) (gv : Array Value) (u : World) : Prop := BlkA 31 w.heap.size u gv ∧ Below w.heap.size w u
theorem gbox_new (w : World) (gv : Array Value) : GBox w gv (w.alloc (.cells gv 31)) := ⟨blkA_new 31 w gv, (Below.refl _ _).alloc (Nat.le_refl _) _⟩
set_option maxRecDepth 100000 in
set_option maxHeartbeats 4000000 in
theorem outTaken_any (g : GG) (a1 a2 a3 a4 : Option Addr) (c1 c2 c3 c4 : Nat) (ne no : Nat) (ac po : Int) (w : World) (h : GrG w a1 a2 a3 a4 g) (h1 : ne ≤ g.edges.length) (h2 : no ≤ g.outs.length) :
    Calls Try.prog 89 #[.agg #[.string (str g.name), .slice a1 g.actors.length c1, .slice a2 g.edges.length c2, .slice a3 g.ins.length c3, .slice a4 g.outs.length c4], .int .i64 (ne : Int), .int .i64 (no : Int), .int .i64 ac, .int .i64 po] w fun e w' => e = .returned (.bool (outTk g ne no ac po)) ∧ Below w.heap.size w w' := by
  have HG := hiddenG h
  have b2 := h.l2
  have b3 := h.l4
  have neI : (ne : Int) ≤ 1000000000000000 := by omega
  have noI : (no : Int) ≤ 1000000000000000 := by omega
  have B0 := hiddenG (gbox_new w #[.string (str g.name), .slice a1 g.actors.length c1, .slice a2 g.edges.length c2, .slice a3 g.ins.length c3, .slice a4 g.outs.length c4])
  have HT : Hid (outTk g ne no ac po = ((g.edges.take ne).any (fun e => e.f == ac && e.fp == po) || (g.outs.take no).any (fun q => q.actor == ac && q.port == po))) := by rfl
  clear h
  go_enter Try.func89, Try.ntmps89
  go_wp2
  go_loopg [11] ne (fun gk v wr => ∃ k : Nat, k ≤ ne ∧ gk = ne - k ∧ v = .int .i64 (k : Int) ∧ GBox w #[.string (str g.name), .slice a1 g.actors.length c1, .slice a2 g.edges.length c2, .slice a3 g.ins.length c3, .slice a4 g.outs.length c4] wr ∧ ∀ j, j < k → ((nthE g.edges j).f == ac && (nthE g.edges j).fp == po) = false)
  case atStart => exact ⟨0, Nat.zero_le _, rfl, rfl, B0.out, fun j hj => absurd hj (Nat.not_lt_zero _)⟩
  case round =>
    clear B0
    obtain ⟨k, hk, rfl, rfl, hB, hall⟩ := hrel
    have HB := hiddenG hB
    have HAL := hiddenG hall
    have y2 : wr.cell? ⟨w.heap.size, 2, none⟩ = some (.slice a2 g.edges.length c2) := hB.1.cell rfl
    have y4 : wr.cell? ⟨w.heap.size, 4, none⟩ = some (.slice a4 g.outs.length c4) := hB.1.cell rfl
    clear hB hall
    by_cases hlt : k < ne
    · have hki : (k : Int) < (ne : Int) := by omega
      have hkl : k < g.edges.length := by omega
      have hkI : (k : Int) < (g.edges.length : Int) := by omega
      rcases (HG.out.below HB.out.2).E with e | ⟨b, off, rfl, hc⟩
      · rw [e] at hkl; exact absurd hkl (Nat.not_lt_zero _)
      obtain ⟨x0, x1, x2, x3, -⟩ := hc k hkl
      clear hc
      have HYES : Hid (((nthE g.edges k).f == ac && (nthE g.edges k).fp == po) = true → outTk g ne no ac po = true) := fun e => by rw [HT.out, any_yesE hlt h1 e, Bool.true_or]
      have HNO : Hid (((nthE g.edges k).f == ac && (nthE g.edges k).fp == po) = false → ∀ j, j < k + 1 → ((nthE g.edges j).f == ac && (nthE g.edges j).fp == po) = false) := fun e j hj => by
        by_cases q : j < k
        · exact HAL.out j q
        · rw [show j = k by omega]; exact e
      generalize nthE g.edges k = E at *
      obtain ⟨ef, efp, et, etp, es⟩ := E
      simp only at x0 x1 x2 x3 HYES HNO
      obtain ⟨q1, hq1⟩ : ∃ q, (ef == ac) = q := ⟨_, rfl⟩
      obtain ⟨q2, hq2⟩ : ∃ q, (efp == po) = q := ⟨_, rfl⟩
      rw [hq1, hq2] at HYES HNO
      cases q1
      · go_wp2
        go_roundg (ne - (k + 1))
        case measure => omega
        case rel => exact ⟨k + 1, by omega, rfl, by go_num, HB.out, HNO.out rfl⟩
      · cases q2
        · go_wp2
          go_roundg (ne - (k + 1))
          case measure => omega
          case rel => exact ⟨k + 1, by omega, rfl, by go_num, HB.out, HNO.out rfl⟩
        · go_wp2
          go_ret
          exact ⟨by rw [HYES.out rfl]; rfl, HB.out.2⟩
    · have hki : ¬ (k : Int) < (ne : Int) := by omega
      have HE0 : Hid ((g.edges.take ne).any (fun e => e.f == ac && e.fp == po) = false) := any_noE h1 (fun j hj => HAL.out j (by omega))
      clear y2 y4 HAL hlt hk
      go_wp2
      go_loopg [12] no (fun gk v wr => ∃ k : Nat, k ≤ no ∧ gk = no - k ∧ v = .int .i64 (k : Int) ∧ GBox w #[.string (str g.name), .slice a1 g.actors.length c1, .slice a2 g.edges.length c2, .slice a3 g.ins.length c3, .slice a4 g.outs.length c4] wr ∧ ∀ j, j < k → ((nthP g.outs j).actor == ac && (nthP g.outs j).port == po) = false)
      case atStart => exact ⟨0, Nat.zero_le _, rfl, rfl, HB.out, fun j hj => absurd hj (Nat.not_lt_zero _)⟩
      case round =>
        clear HB hki
        obtain ⟨k, hk, rfl, rfl, hB, hall⟩ := hrel
        have HB := hiddenG hB
        have HAL := hiddenG hall
        have y4 : wr.cell? ⟨w.heap.size, 4, none⟩ = some (.slice a4 g.outs.length c4) := hB.1.cell rfl
        clear hB hall
        by_cases hlt : k < no
        · have hki : (k : Int) < (no : Int) := by omega
          have hkl : k < g.outs.length := by omega
          have hkI : (k : Int) < (g.outs.length : Int) := by omega
          rcases (HG.out.below HB.out.2).O with e | ⟨b, off, rfl, hc⟩
          · rw [e] at hkl; exact absurd hkl (Nat.not_lt_zero _)
          obtain ⟨-, x1, x2⟩ := hc k hkl
          clear hc
          have HYES : Hid (((nthP g.outs k).actor == ac && (nthP g.outs k).port == po) = true → outTk g ne no ac po = true) := fun e => by rw [HT.out, HE0.out, any_yesP hlt h2 e, Bool.false_or]
          have HNO : Hid (((nthP g.outs k).actor == ac && (nthP g.outs k).port == po) = false → ∀ j, j < k + 1 → ((nthP g.outs j).actor == ac && (nthP g.outs j).port == po) = false) := fun e j hj => by
            by_cases q : j < k
            · exact HAL.out j q
            · rw [show j = k by omega]; exact e
          generalize nthP g.outs k = E at *
          obtain ⟨pn, pa, pp⟩ := E
          simp only at x1 x2 HYES HNO
          obtain ⟨q1, hq1⟩ : ∃ q, (pa == ac) = q := ⟨_, rfl⟩
          obtain ⟨q2, hq2⟩ : ∃ q, (pp == po) = q := ⟨_, rfl⟩
          rw [hq1, hq2] at HYES HNO
          cases q1
          · go_wp2
            go_roundg (no - (k + 1))
            case measure => omega
            case rel => exact ⟨k + 1, by omega, rfl, by go_num, HB.out, HNO.out rfl⟩
          · cases q2
            · go_wp2
              go_roundg (no - (k + 1))
              case measure => omega
              case rel => exact ⟨k + 1, by omega, rfl, by go_num, HB.out, HNO.out rfl⟩
            · go_wp2
              go_ret
              exact ⟨by rw [HYES.out rfl]; rfl, HB.out.2⟩
        · have hki : ¬ (k : Int) < (no : Int) := by omega
          have HP0 : Hid (outTk g ne no ac po = false) := by show _ = _; rw [HT.out, HE0.out, any_noP h2 (fun j hj => HAL.out j (by omega))]; rfl
          go_wp2
          go_ret
          exact ⟨by rw [HP0.out]; rfl, HB.out.2⟩
set_option maxRecDepth 100000 in
set_option maxHeartbeats 4000000 in
theorem inTaken_any (g : GG) (a1 a2 a3 a4 : Option Addr) (c1 c2 c3 c4 : Nat) (ne no : Nat) (ac po : Int) (w : World) (h : GrG w a1 a2 a3 a4 g) (h1 : ne ≤ g.edges.length) (h2 : no ≤ g.ins.length) :
    Calls Try.prog 90 #[.agg #[.string (str g.name), .slice a1 g.actors.length c1, .slice a2 g.edges.length c2, .slice a3 g.ins.length c3, .slice a4 g.outs.length c4], .int .i64 (ne : Int), .int .i64 (no : Int), .int .i64 ac, .int .i64 po] w fun e w' => e = .returned (.bool (inTk g ne no ac po)) ∧ Below w.heap.size w w' := by
  have HG := hiddenG h
  have b2 := h.l2
  have b3 := h.l3
  have neI : (ne : Int) ≤ 1000000000000000 := by omega
  have noI : (no : Int) ≤ 1000000000000000 := by omega
  have B0 := hiddenG (gbox_new w #[.string (str g.name), .slice a1 g.actors.length c1, .slice a2 g.edges.length c2, .slice a3 g.ins.length c3, .slice a4 g.outs.length c4])
  have HT : Hid (inTk g ne no ac po = ((g.edges.take ne).any (fun e => e.t == ac && e.tp == po) || (g.ins.take no).any (fun q => q.actor == ac && q.port == po))) := by rfl
  clear h
  go_enter Try.func90, Try.ntmps90
  go_wp2
  go_loopg [11] ne (fun gk v wr => ∃ k : Nat, k ≤ ne ∧ gk = ne - k ∧ v = .int .i64 (k : Int) ∧ GBox w #[.string (str g.name), .slice a1 g.actors.length c1, .slice a2 g.edges.length c2, .slice a3 g.ins.length c3, .slice a4 g.outs.length c4] wr ∧ ∀ j, j < k → ((nthE g.edges j).t == ac && (nthE g.edges j).tp == po) = false)
  case atStart => exact ⟨0, Nat.zero_le _, rfl, rfl, B0.out, fun j hj => absurd hj (Nat.not_lt_zero _)⟩
  case round =>
    clear B0
    obtain ⟨k, hk, rfl, rfl, hB, hall⟩ := hrel
    have HB := hiddenG hB
    have HAL := hiddenG hall
    have y2 : wr.cell? ⟨w.heap.size, 2, none⟩ = some (.slice a2 g.edges.length c2) := hB.1.cell rfl
    have y4 : wr.cell? ⟨w.heap.size, 3, none⟩ = some (.slice a3 g.ins.length c3) := hB.1.cell rfl
    clear hB hall
    by_cases hlt : k < ne
    · have hki : (k : Int) < (ne : Int) := by omega
      have hkl : k < g.edges.length := by omega
      have hkI : (k : Int) < (g.edges.length : Int) := by omega
      rcases (HG.out.below HB.out.2).E with e | ⟨b, off, rfl, hc⟩
      · rw [e] at hkl; exact absurd hkl (Nat.not_lt_zero _)
      obtain ⟨x0, x1, x2, x3, -⟩ := hc k hkl
      clear hc
      have HYES : Hid (((nthE g.edges k).t == ac && (nthE g.edges k).tp == po) = true → inTk g ne no ac po = true) := fun e => by rw [HT.out, any_yesE hlt h1 e, Bool.true_or]
      have HNO : Hid (((nthE g.edges k).t == ac && (nthE g.edges k).tp == po) = false → ∀ j, j < k + 1 → ((nthE g.edges j).t == ac && (nthE g.edges j).tp == po) = false) := fun e j hj => by
        by_cases q : j < k
        · exact HAL.out j q
        · rw [show j = k by omega]; exact e
      generalize nthE g.edges k = E at *
      obtain ⟨ef, efp, et, etp, es⟩ := E
      simp only at x0 x1 x2 x3 HYES HNO
      obtain ⟨q1, hq1⟩ : ∃ q, (et == ac) = q := ⟨_, rfl⟩
      obtain ⟨q2, hq2⟩ : ∃ q, (etp == po) = q := ⟨_, rfl⟩
      rw [hq1, hq2] at HYES HNO
      cases q1
      · go_wp2
        go_roundg (ne - (k + 1))
        case measure => omega
        case rel => exact ⟨k + 1, by omega, rfl, by go_num, HB.out, HNO.out rfl⟩
      · cases q2
        · go_wp2
          go_roundg (ne - (k + 1))
          case measure => omega
          case rel => exact ⟨k + 1, by omega, rfl, by go_num, HB.out, HNO.out rfl⟩
        · go_wp2
          go_ret
          exact ⟨by rw [HYES.out rfl]; rfl, HB.out.2⟩
    · have hki : ¬ (k : Int) < (ne : Int) := by omega
      have HE0 : Hid ((g.edges.take ne).any (fun e => e.t == ac && e.tp == po) = false) := any_noE h1 (fun j hj => HAL.out j (by omega))
      clear y2 y4 HAL hlt hk
      go_wp2
      go_loopg [12] no (fun gk v wr => ∃ k : Nat, k ≤ no ∧ gk = no - k ∧ v = .int .i64 (k : Int) ∧ GBox w #[.string (str g.name), .slice a1 g.actors.length c1, .slice a2 g.edges.length c2, .slice a3 g.ins.length c3, .slice a4 g.outs.length c4] wr ∧ ∀ j, j < k → ((nthP g.ins j).actor == ac && (nthP g.ins j).port == po) = false)
      case atStart => exact ⟨0, Nat.zero_le _, rfl, rfl, HB.out, fun j hj => absurd hj (Nat.not_lt_zero _)⟩
      case round =>
        clear HB hki
        obtain ⟨k, hk, rfl, rfl, hB, hall⟩ := hrel
        have HB := hiddenG hB
        have HAL := hiddenG hall
        have y4 : wr.cell? ⟨w.heap.size, 3, none⟩ = some (.slice a3 g.ins.length c3) := hB.1.cell rfl
        clear hB hall
        by_cases hlt : k < no
        · have hki : (k : Int) < (no : Int) := by omega
          have hkl : k < g.ins.length := by omega
          have hkI : (k : Int) < (g.ins.length : Int) := by omega
          rcases (HG.out.below HB.out.2).I with e | ⟨b, off, rfl, hc⟩
          · rw [e] at hkl; exact absurd hkl (Nat.not_lt_zero _)
          obtain ⟨-, x1, x2⟩ := hc k hkl
          clear hc
          have HYES : Hid (((nthP g.ins k).actor == ac && (nthP g.ins k).port == po) = true → inTk g ne no ac po = true) := fun e => by rw [HT.out, HE0.out, any_yesP hlt h2 e, Bool.false_or]
          have HNO : Hid (((nthP g.ins k).actor == ac && (nthP g.ins k).port == po) = false → ∀ j, j < k + 1 → ((nthP g.ins j).actor == ac && (nthP g.ins j).port == po) = false) := fun e j hj => by
            by_cases q : j < k
            · exact HAL.out j q
            · rw [show j = k by omega]; exact e
          generalize nthP g.ins k = E at *
          obtain ⟨pn, pa, pp⟩ := E
          simp only at x1 x2 HYES HNO
          obtain ⟨q1, hq1⟩ : ∃ q, (pa == ac) = q := ⟨_, rfl⟩
          obtain ⟨q2, hq2⟩ : ∃ q, (pp == po) = q := ⟨_, rfl⟩
          rw [hq1, hq2] at HYES HNO
          cases q1
          · go_wp2
            go_roundg (no - (k + 1))
            case measure => omega
            case rel => exact ⟨k + 1, by omega, rfl, by go_num, HB.out, HNO.out rfl⟩
          · cases q2
            · go_wp2
              go_roundg (no - (k + 1))
              case measure => omega
              case rel => exact ⟨k + 1, by omega, rfl, by go_num, HB.out, HNO.out rfl⟩
            · go_wp2
              go_ret
              exact ⟨by rw [HYES.out rfl]; rfl, HB.out.2⟩
        · have hki : ¬ (k : Int) < (no : Int) := by omega
          have HP0 : Hid (inTk g ne no ac po = false) := by show _ = _; rw [HT.out, HE0.out, any_noP h2 (fun j hj => HAL.out j (by omega))]; rfl
          go_wp2
          go_ret
          exact ⟨by rw [HP0.out]; rfl, HB.out.2⟩
theorem LentA.cells {B : Nat} {w : World} {a : Option Addr} {c : Nat} {As : List GA} (h : LentA B w a c As) : ∃ b z, a = some ⟨b, z, none⟩ ∧ As.length + 1 ≤ c ∧ (∀ k, k < As.length → ∃ gq, w.cell? ⟨b, z + k * 3 + 2, none⟩ = some (.slice (some ⟨gq, 0, none⟩) (nthA As k).params.length ((nthA As k).params.length + 4)) ∧ Lend B w gq (nthA As k).params.length (nthA As k).params) ∧ w.cell? ⟨b, z + As.length * 3 + 1, none⟩ = some (.int .u8 99) := by
  obtain ⟨b, M, rfl, -, h3, h4, h5, h6⟩ := h
  have hl : M.length = As.length := by rw [← h4, List.length_map]
  have e1 : M.flatMap aP ++ aP markA = (M ++ [markA]).flatMap aP := by rw [List.flatMap_append]; simp
  have e2 : As.length + 1 = (M ++ [markA]).length := by rw [List.length_append, hl]; rfl
  rw [e1] at h5
  have h7 : w.ownsRow B 59 3 (.slice (some ⟨b, 0, none⟩) (As.length + 1) c) (M ++ [markA]).length ((M ++ [markA]).flatMap aP) := by rw [← e2]; exact h5
  refine ⟨b, 0, rfl, h3, fun k hk => ?_, ?_⟩
  · have hkm : k < M.length := by omega
    have hk2 : k < (M ++ [markA]).length := by omega
    have e3 : (M ++ [markA])[k] = M[k] := List.getElem_append_left hkm
    have e4 : nthA As k = M[k].1 := by
      subst h4
      rw [nthA_get hk, List.getElem_map]
    obtain ⟨gq, e5, h8⟩ := h6 M[k] (List.getElem_mem hkm)
    rw [e4, Nat.zero_add]
    exact ⟨gq, row_cell aP_len h7 hk2 (r := 2) (by decide) (by rw [e3, ← e5]; rfl), h8⟩
  · have hk2 : As.length < (M ++ [markA]).length := by omega
    have e3 : (M ++ [markA])[As.length] = markA := by
      rw [List.getElem_append_right (by omega)]
      simp
    rw [Nat.zero_add]
    exact row_cell aP_len h7 hk2 (r := 1) (by decide) (by rw [e3]; rfl)
theorem LentE.cells {B : Nat} {w : World} {a : Option Addr} {c : Nat} {As : List GE} (h : LentE B w a c As) : ∃ b z, a = some ⟨b, z, none⟩ ∧ As.length + 1 ≤ c ∧ (∀ k, k < As.length → ∃ gq, w.cell? ⟨b, z + k * 5 + 4, none⟩ = some (.slice (some ⟨gq, 0, none⟩) (nthE As k).start.length ((nthE As k).start.length + 4)) ∧ Lend B w gq (nthE As k).start.length (nthE As k).start) ∧ w.cell? ⟨b, z + As.length * 5 + 0, none⟩ = some (.int .i64 (-7770777)) := by
  obtain ⟨b, M, rfl, -, h3, h4, h5, h6⟩ := h
  have hl : M.length = As.length := by rw [← h4, List.length_map]
  have e1 : M.flatMap eP ++ eP markE = (M ++ [markE]).flatMap eP := by rw [List.flatMap_append]; simp
  have e2 : As.length + 1 = (M ++ [markE]).length := by rw [List.length_append, hl]; rfl
  rw [e1] at h5
  have h7 : w.ownsRow B 54 5 (.slice (some ⟨b, 0, none⟩) (As.length + 1) c) (M ++ [markE]).length ((M ++ [markE]).flatMap eP) := by rw [← e2]; exact h5
  refine ⟨b, 0, rfl, h3, fun k hk => ?_, ?_⟩
  · have hkm : k < M.length := by omega
    have hk2 : k < (M ++ [markE]).length := by omega
    have e3 : (M ++ [markE])[k] = M[k] := List.getElem_append_left hkm
    have e4 : nthE As k = M[k].1 := by
      subst h4
      rw [nthE_get hk, List.getElem_map]
    obtain ⟨gq, e5, h8⟩ := h6 M[k] (List.getElem_mem hkm)
    rw [e4, Nat.zero_add]
    exact ⟨gq, row_cell eP_len h7 hk2 (r := 4) (by decide) (by rw [e3, ← e5]; rfl), h8⟩
  · have hk2 : As.length < (M ++ [markE]).length := by omega
    have e3 : (M ++ [markE])[As.length] = markE := by
      rw [List.getElem_append_right (by omega)]
      simp
    rw [Nat.zero_add]
    exact row_cell eP_len h7 hk2 (r := 0) (by decide) (by rw [e3]; rfl)
theorem LentP.mark {B : Nat} {w : World} {a : Option Addr} {c : Nat} {Ps : List GP} (h : LentP B w a c Ps) : ∃ b z, a = some ⟨b, z, none⟩ ∧ Ps.length + 1 ≤ c ∧ w.cell? ⟨b, z + Ps.length * 3 + 1, none⟩ = some (.int .i64 (-7770777)) := by
  obtain ⟨b, rfl, -, h3, h5⟩ := h
  have e1 : Ps.flatMap pP ++ pP markP = (Ps ++ [markP]).flatMap pP := by rw [List.flatMap_append]; simp
  have e2 : Ps.length + 1 = (Ps ++ [markP]).length := by rw [List.length_append]; rfl
  rw [e1] at h5
  have h7 : w.ownsRow B 56 3 (.slice (some ⟨b, 0, none⟩) (Ps.length + 1) c) (Ps ++ [markP]).length ((Ps ++ [markP]).flatMap pP) := by rw [← e2]; exact h5
  have hk2 : Ps.length < (Ps ++ [markP]).length := by omega
  have e3 : (Ps ++ [markP])[Ps.length] = markP := by
    rw [List.getElem_append_right (by omega)]
    simp
  exact ⟨b, 0, rfl, h3, by rw [Nat.zero_add]; exact row_cell pP_len h7 hk2 (r := 1) (by decide) (by rw [e3]; rfl)⟩
end Go.Proofs.Ytlfmmdioondaoaa

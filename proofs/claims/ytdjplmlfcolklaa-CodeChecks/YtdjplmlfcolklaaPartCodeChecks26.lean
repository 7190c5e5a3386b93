/- Texts of one chain, laid one behind the other. -/
import Derived.Test.YtdjplmlfcolklaaPartCodeChecks24
import Derived.Test.YtdjplmlfcolklaaPartCodeChecks6
import Derived.Deep.SlicePairs
import Derived.SizedLaws
import Derived.Test.YtdjplmlfcolklaaPartCodeChecks7
import Derived.Test.YtdjplmlfcolklaaPartCodeChecks22
import Derived.Test.YtdjplmlfcolklaaPartCodeChecks25
namespace Go.Proofs.Ytdjplmlfcolklaa
open Go.ChangeShapes Go.WideShapes Go.ChangeAt Go.RowKit
theorem Try.cellsYP : Try.prog.cellsOf 45 = 2 := by kernel_rfl
theorem Try.cellsYL : Try.prog.cellsOf 49 = 3 := by kernel_rfl
theorem Try.cellsYR : Try.prog.cellsOf 47 = 2 := by kernel_rfl
theorem Try.cellsYO : Try.prog.cellsOf 53 = 3 := by kernel_rfl
theorem Try.cellsYG : Try.prog.cellsOf 26 = 7 := by kernel_rfl
theorem Try.cellsSP : Try.prog.cellsOf 22 = 1 := by kernel_rfl
theorem Try.cellsSL : Try.prog.cellsOf 23 = 1 := by kernel_rfl
theorem Try.cellsSO : Try.prog.cellsOf 24 = 1 := by kernel_rfl
theorem Try.cellsSI : Try.prog.cellsOf 43 = 1 := by kernel_rfl
theorem Try.cellsTG : Try.prog.cellsOf 42 = 1 := by kernel_rfl
theorem Try.cellsTK : Try.prog.cellsOf 51 = 1 := by kernel_rfl
theorem Try.cells3G : Try.prog.cellsOf 3 = 1 := by kernel_rfl
theorem Try.bytesYP : Try.prog.bytesOf 45 = 32 := by kernel_rfl
theorem Try.bytesYL : Try.prog.bytesOf 49 = 40 := by kernel_rfl
theorem Try.bytesYO : Try.prog.bytesOf 53 = 24 := by kernel_rfl
theorem Try.bytes3G : Try.prog.bytesOf 3 = 8 := by kernel_rfl
theorem chooseG {α : Type} {n : Nat} {p : Nat → α → Prop} (d : α) (h : ∀ i, i < n → ∃ a, p i a) : ∃ f : Nat → α, ∀ i, i < n → p i (f i) :=
  ⟨fun i => if hi : i < n then (h i hi).choose else d, fun i hi => by simp only [hi, dif_pos]; exact (h i hi).choose_spec⟩
theorem off_noneG {W : World} {x : Addr} {v : Value} (h : W.cell? (x.add 0) = some v) : x.spot = none := by
  obtain ⟨b, off, sp⟩ := x
  cases sp with
  | none => rfl
  | some s => simp [World.cell?, Addr.add] at h; split at h <;> cases h
section
variable {H : Type} {enc : TypeId × Value → H} {W : World} {base : Nat} {held : Bool}
theorem wAll_memG {P : Program} {e : TypeId} {q : Nat → Bool} : ∀ {l : List (DataW H)} {d : DataW H}, d ∈ l → (DataW.weightsAll P e l).all q = true → (d.weights P e).all q = true
  | [], _, h, _ => by simp at h
  | d0 :: l, d, h, hw => by
    simp only [DataW.weightsAll, List.all_append, Bool.and_eq_true] at hw
    rcases List.mem_cons.1 h with rfl | h
    · exact hw.1
    · exact wAll_memG h hw.2
theorem numsG_open {n : Nat} {v : Value} {y : DataW H × List MemPlace} (h : DataW.trod enc Try.prog W base (fun _ => true) held n 43 [v] = some y) (hw : (y.1.weights Try.prog 43).all (· ≤ reachBytes) = true) :
    ∃ (ns : List Int) (x : Option Addr) (c : Nat), v = .slice x ns.length c ∧ Arg W x ns.length c ns := by
  rcases open_ints Try.underlying43 Try.underlying3 Try.cells3G h with ⟨h1, -⟩ | ⟨a, len, cap, zs, h1, -, hl, -, hz, hx, hc, hb⟩
  · simp only [List.cons.injEq, and_true] at h1
    subst h1
    exact ⟨[], none, 0, rfl, arg_nil⟩
  · simp only [List.cons.injEq, and_true] at h1
    subst h1
    simp only [if_true] at hz
    have hl2 : (zs.take len).length = len := by rw [List.length_take]; omega
    have hr : len * 8 ≤ 140737488351232 := by
      rw [hx] at hw
      simp only [DataW.weights, Try.underlying43, List.all_cons, Bool.and_eq_true, decide_eq_true_eq, Try.bytes3G] at hw
      have := hw.1
      simp only [reachBytes, lits, List.length_map, List.length_take, List.length_drop] at this
      omega
    refine ⟨zs.take len, some a, cap, by rw [hl2], ?_⟩
    rw [hl2]
    exact arg_mk hl hz hc hb hr
theorem sliceG_open {α : Type} (S T : TypeId) (c bt : Nat) (f : α → List Value) (hfl : ∀ x, (f x).length = c) (d0 : α) (hS : Try.prog.underlying S = some (.slice T)) (hc0 : 0 < c) (hc : Try.prog.cellsOf T = c) (hby : Try.prog.bytesOf T = bt) (P : α → Prop)
    (hel : ∀ {n : Nat} {cs : List Value} {y : DataW H × List MemPlace}, DataW.trod enc Try.prog W base (fun _ => true) held n T cs = some y → (y.1.weights Try.prog T).all (· ≤ reachBytes) = true → ∃ p, cs = f p ∧ P p)
    {n : Nat} {v : Value} {y : DataW H × List MemPlace} (h : DataW.trod enc Try.prog W base (fun _ => true) held n S [v] = some y) (hw : (y.1.weights Try.prog S).all (· ≤ reachBytes) = true) :
    ∃ (a : Option Addr) (cap : Nat) (L : List α), v = .slice a L.length cap ∧ (a = none → cap = 0) ∧ L.length * bt ≤ 140737488351232 ∧ (∀ p ∈ L, P p) ∧ (L = [] ∨ ∃ b off, a = some ⟨b, off, none⟩ ∧ ∀ k (hk : k < L.length), ∀ j u, (f L[k])[j]? = some u → W.cell? ⟨b, off + k * c + j, none⟩ = some u) := by
  rcases Deep.open_slice hS h with ⟨h1, -⟩ | ⟨x, len, cap, m, n, D, Pl, h1, -, hl, -, hm, hd, hx⟩
  · simp only [List.cons.injEq, and_true] at h1
    subst h1
    exact ⟨none, 0, [], rfl, fun _ => rfl, by simp, fun p hp => (by cases hp), .inl rfl⟩
  · simp only [List.cons.injEq, and_true] at h1
    subst h1
    simp only [if_true] at hm
    rw [hd] at hw
    simp only [DataW.weights, hS, List.all_cons, List.all_append, Bool.and_eq_true, decide_eq_true_eq, hby] at hw
    obtain ⟨wr, we, -⟩ := hw
    simp only [reachBytes, List.length_map, List.length_range] at wr
    have each : ∀ i, i < len → ∃ p : α, W.cells? base (x.add (i * c)) c = some (f p) ∧ P p := by
      intro i hi
      obtain ⟨cs', h1, h2⟩ := hx i (by omega)
      rw [hc] at h1
      obtain ⟨p, rfl, hp⟩ := hel h2 (wAll_memG (List.mem_map.2 ⟨i, List.mem_range.2 hi, rfl⟩) we)
      exact ⟨p, h1, hp⟩
    obtain ⟨q, hq⟩ := chooseG d0 each
    have hlen : ((List.range len).map q).length = len := by simp
    refine ⟨some x, cap, (List.range len).map q, by rw [hlen], (fun e => by cases e), ?_, fun p hp => ?_, ?_⟩
    · rw [hlen]
      have h2 : len * bt ≤ m * bt := Nat.mul_le_mul_right _ (by omega)
      have h3 : len * bt ≤ (len + (m - len)) * bt := Nat.mul_le_mul_right _ (Nat.le_add_right _ _)
      omega
    · obtain ⟨i, hi, rfl⟩ := List.mem_map.1 hp
      exact (hq i (List.mem_range.1 hi)).2
    · by_cases h0 : 0 < len
      · right
        have cell : ∀ i, i < len → ∀ j u, (f (q i))[j]? = some u → W.cell? ((x.add (i * c)).add j) = some u := fun i hi j u hu => by
          obtain ⟨_, hlen, hcc⟩ := World.cells?_some (hq i hi).1
          have hj : j < c := by
            have := (List.getElem?_eq_some_iff.1 hu).1
            rw [hfl] at this
            exact this
          rw [hcc j hj, hu]
        obtain ⟨u0, hu0⟩ : ∃ u, (f (q 0))[0]? = some u := ⟨_, List.getElem?_eq_getElem (by rw [hfl]; exact hc0)⟩
        have hs := off_noneG (W := W) (x := x.add (0 * c)) (cell 0 h0 0 u0 hu0)
        obtain ⟨b, off, sp⟩ := x
        rw [Nat.zero_mul] at hs
        have hs' : sp = none := by simpa [Addr.add] using hs
        subst hs'
        refine ⟨b, off, rfl, fun k hk j u hu => ?_⟩
        have hk' : k < len := by simpa using hk
        rw [List.getElem_map, List.getElem_range] at hu
        have cc := cell k hk' j u hu
        rw [Addr.add_lit, Addr.add_lit] at cc
        exact cc
      · left
        have e : len = 0 := by omega
        subst e
        rfl
theorem inR_ok {zs : List Int} (h : InR zs) : ∀ z ∈ zs, IntOk z := fun z hz => by
  obtain ⟨k, hk, e⟩ := List.mem_iff_getElem.1 hz
  have q := h k
  unfold nth at q
  rw [List.getD_eq_getElem?_getD, List.getElem?_eq_getElem hk, Option.getD_some, e] at q
  exact q
set_option maxRecDepth 100000 in
theorem regY_open {n : Nat} {cs : List Value} {y : DataW H × List MemPlace} (h : DataW.trod enc Try.prog W base (fun _ => true) held n 47 cs = some y) :
    ∃ b s : Int, cs = [.int .i64 b, .int .i64 s] ∧ b ≤ 9223372036854775807 := by
  obtain ⟨xs, k, hk, hxy, hcl, hxl, hf⟩ := DataW.trod_struct Try.underlying47 h
  rw [Try.cellsYR] at hcl
  match xs, hxl, cs, hcl with
  | [y0, y1], _, [v0, v1], _ =>
    have g0 := hf 0 _ rfl
    have g1 := hf 1 _ rfl
    simp [Try.cells3G] at g0 g1
    obtain ⟨z0, q0, -, b0⟩ := DataW.trod_int Try.underlying3 g0
    obtain ⟨z1, q1, -, -⟩ := DataW.trod_int Try.underlying3 g1
    simp only [List.cons.injEq, and_true] at q0 q1
    subst q0 q1
    exact ⟨z0, z1, rfl, (bounds_i64 b0).2⟩
set_option maxRecDepth 100000 in
theorem opY_open {n : Nat} {cs : List Value} {y : DataW H × List MemPlace} (h : DataW.trod enc Try.prog W base (fun _ => true) held n 53 cs = some y) :
    ∃ p : OpC, cs = opV p ∧ True := by
  obtain ⟨xs, k, hk, hxy, hcl, hxl, hf⟩ := DataW.trod_struct Try.underlying53 h
  rw [Try.cellsYO] at hcl
  match xs, hxl, cs, hcl with
  | [y0, y1, y2], _, [v0, v1, v2], _ =>
    have g0 := hf 0 _ rfl
    have g1 := hf 1 _ rfl
    have g2 := hf 2 _ rfl
    simp [Try.cellsTK, Try.cells3G] at g0 g1 g2
    obtain ⟨z0, q0, -, b0⟩ := DataW.trod_int Try.underlying51 g0
    obtain ⟨z1, q1, -, -⟩ := DataW.trod_int Try.underlying3 g1
    obtain ⟨z2, q2, -, -⟩ := DataW.trod_int Try.underlying3 g2
    simp only [List.cons.injEq, and_true] at q0 q1 q2
    subst q0 q1 q2
    have bd := bounds_u8 b0
    obtain ⟨tg, rfl⟩ : ∃ t : Nat, z0 = (t : Int) := ⟨z0.toNat, by omega⟩
    exact ⟨⟨tg, z1, z2⟩, rfl, trivial⟩
theorem atV_of {α : Type} {f : α → List Value} {c : Nat} {a : Option Addr} {L : List α} (h : L = [] ∨ ∃ b off, a = some ⟨b, off, none⟩ ∧ ∀ k (hk : k < L.length), ∀ j u, (f L[k])[j]? = some u → W.cell? ⟨b, off + k * c + j, none⟩ = some u) : AtV f c W a L := by
  rcases h with h | ⟨b, off, e, h⟩
  · exact .inl h
  · refine .inr ⟨b, off, e, fun k x hx j u hu => ?_⟩
    obtain ⟨hk, rfl⟩ := List.getElem?_eq_some_iff.1 hx
    exact h k hk j u hu
end
/-- What is there of the rows of a program that came in. -/
structure ArgG20 (W : World) (g : PrgC) (LP : List (PrtC × (Option Addr × Nat))) (LL : List (LinC × (Option Addr × Nat))) : Prop where
  pp : ∀ x ∈ LP, Arg W x.2.1 x.1.ps.length x.2.2 x.1.ps
  lp : ∀ x ∈ LL, Arg W x.2.1 x.1.start.length x.2.2 x.1.start
  np : g.parts.length * 32 ≤ 140737488351232
  nl : g.lines.length * 40 ≤ 140737488351232
  no : g.ops.length * 24 ≤ 140737488351232
theorem ArgG20.below {W W' : World} {g : PrgC} {LP : List (PrtC × (Option Addr × Nat))} {LL : List (LinC × (Option Addr × Nat))} (h : ArgG20 W g LP LL) (hb : Below W.heap.size W W') : ArgG20 W' g LP LL :=
  ⟨fun x hx => (h.pp x hx).below hb, fun x hx => (h.lp x hx).below hb, h.np, h.nl, h.no⟩
def GoodPX (W : World) (p : PrtC × (Option Addr × Nat)) : Prop := (p.1.tag < 256 ∧ ∀ z ∈ p.1.ps, IntOk z) ∧ Arg W p.2.1 p.1.ps.length p.2.2 p.1.ps
def GoodLX (W : World) (p : LinC × (Option Addr × Nat)) : Prop := (∀ z ∈ p.1.start, IntOk z) ∧ p.1.base ≤ 9223372036854775807 ∧ Arg W p.2.1 p.1.start.length p.2.2 p.1.start
section
variable {H : Type} {enc : TypeId × Value → H} {W : World} {base : Nat} {held : Bool}
set_option maxRecDepth 100000 in
theorem partX_open {n : Nat} {cs : List Value} {y : DataW H × List MemPlace} (h : DataW.trod enc Try.prog W base (fun _ => true) held n 45 cs = some y) (hw : (y.1.weights Try.prog 45).all (· ≤ reachBytes) = true) :
    ∃ p : PrtC × (Option Addr × Nat), cs = prtV p ∧ GoodPX W p := by
  obtain ⟨xs, k, hk, hxy, hcl, hxl, hf⟩ := DataW.trod_struct Try.underlying45 h
  rw [Try.cellsYP] at hcl
  match xs, hxl, cs, hcl with
  | [y0, y1], _, [v0, v1], _ =>
    have g0 := hf 0 _ rfl
    have g1 := hf 1 _ rfl
    simp [Try.cellsTG, Try.cellsSI] at g0 g1
    have hw1 : (y1.1.weights Try.prog 43).all (· ≤ reachBytes) = true := by
      rw [hxy] at hw
      simp only [DataW.weights, Try.underlying45] at hw
      rw [List.all_eq_true] at hw ⊢
      exact fun m hm => hw m (DataW.weights_mem_each (j := 1) (t := 43) (d := y1.1) rfl rfl m hm)
    obtain ⟨z0, q0, -, b0⟩ := DataW.trod_int Try.underlying42 g0
    obtain ⟨ns, x, c, q1, hA⟩ := numsG_open g1 hw1
    simp only [List.cons.injEq, and_true] at q0
    subst q0 q1
    have bd := bounds_u8 b0
    obtain ⟨tg, rfl⟩ : ∃ t : Nat, z0 = (t : Int) := ⟨z0.toNat, by omega⟩
    exact ⟨(⟨tg, ns⟩, (x, c)), rfl, ⟨by show tg < 256; omega, inR_ok hA.fits⟩, hA⟩
set_option maxRecDepth 100000 in
theorem lineX_open {n : Nat} {cs : List Value} {y : DataW H × List MemPlace} (h : DataW.trod enc Try.prog W base (fun _ => true) held n 49 cs = some y) (hw : (y.1.weights Try.prog 49).all (· ≤ reachBytes) = true) :
    ∃ p : LinC × (Option Addr × Nat), cs = linV p ∧ GoodLX W p := by
  obtain ⟨xs, k, hk, hxy, hcl, hxl, hf⟩ := DataW.trod_struct Try.underlying49 h
  rw [Try.cellsYL] at hcl
  match xs, hxl, cs, hcl with
  | [y0, y1], _, [v0, v1, v2], _ =>
    have g0 := hf 0 _ rfl
    have g1 := hf 1 _ rfl
    simp [Try.cellsYR, Try.cellsSI] at g0 g1
    have hw1 : (y1.1.weights Try.prog 43).all (· ≤ reachBytes) = true := by
      rw [hxy] at hw
      simp only [DataW.weights, Try.underlying49] at hw
      rw [List.all_eq_true] at hw ⊢
      exact fun m hm => hw m (DataW.weights_mem_each (j := 1) (t := 43) (d := y1.1) rfl rfl m hm)
    obtain ⟨b, s, q0, hb⟩ := regY_open g0
    obtain ⟨ns, x, c, q1, hA⟩ := numsG_open g1 hw1
    simp only [List.cons.injEq, and_true] at q0
    obtain ⟨rfl, rfl⟩ := q0
    subst q1
    exact ⟨(⟨b, s, ns⟩, (x, c)), rfl, inR_ok hA.fits, hb, hA⟩
set_option maxRecDepth 100000 in
theorem program_openX {r : Reach} {b0 : Nat} {v : Value} {d : DataW H} {p : List MemPlace} (hv : Value.okWide Try.prog W r b0 26 v) (h : DataW.Trod enc Try.prog W base (fun _ => true) held 26 v d p) (hw : (d.weights Try.prog 26).all (· ≤ reachBytes) = true) :
    ∃ (g : PrgC) (a1 : Option Addr) (c1 : Nat) (a2 : Option Addr) (c2 : Nat) (a3 : Option Addr) (c3 : Nat) (LP : List (PrtC × (Option Addr × Nat))) (LL : List (LinC × (Option Addr × Nat))), v = prgV g a1 c1 a2 c2 a3 c3 ∧ PrgL W g a1 a2 a3 LP LL ∧ FitP g ∧ ArgG20 W g LP LL := by
  obtain ⟨cs, rfl, hsz⟩ := okWide_struct Try.underlying26 hv
  rw [Try.cellsYG] at hsz
  obtain ⟨fuel, hf⟩ := h
  obtain ⟨xs, k, hk, hxy, hcl, hxl, hf⟩ := DataW.trod_struct Try.underlying26 hf
  obtain ⟨l⟩ := cs
  match xs, hxl, l, hsz with
  | [y0, y1, y2, y3, y4, y5, y6], _, [v0, v1, v2, v3, v4, v5, v6], _ =>
    have g0 := hf 0 _ rfl
    have g1 := hf 1 _ rfl
    have g2 := hf 2 _ rfl
    have g3 := hf 3 _ rfl
    have g4 := hf 4 _ rfl
    have g5 := hf 5 _ rfl
    have g6 := hf 6 _ rfl
    simp [Value.cells, Try.cells3G, Try.cellsSP, Try.cellsSL, Try.cellsSO] at g0 g1 g2 g3 g4 g5 g6
    have hd := congrArg Prod.fst hxy
    simp only at hd
    rw [hd] at hw
    simp only [DataW.weights, Try.underlying26] at hw
    rw [List.all_eq_true] at hw
    have w4 : (y4.1.weights Try.prog 22).all (· ≤ reachBytes) = true := by rw [List.all_eq_true]; exact fun m hm => hw m (DataW.weights_mem_each (j := 4) (t := 22) (d := y4.1) rfl rfl m hm)
    have w5 : (y5.1.weights Try.prog 23).all (· ≤ reachBytes) = true := by rw [List.all_eq_true]; exact fun m hm => hw m (DataW.weights_mem_each (j := 5) (t := 23) (d := y5.1) rfl rfl m hm)
    have w6 : (y6.1.weights Try.prog 24).all (· ≤ reachBytes) = true := by rw [List.all_eq_true]; exact fun m hm => hw m (DataW.weights_mem_each (j := 6) (t := 24) (d := y6.1) rfl rfl m hm)
    obtain ⟨z0, q0, -, -⟩ := DataW.trod_int Try.underlying3 g0
    obtain ⟨z1, q1, -, -⟩ := DataW.trod_int Try.underlying3 g1
    obtain ⟨z2, q2, -, -⟩ := DataW.trod_int Try.underlying3 g2
    obtain ⟨z3, q3, -, -⟩ := DataW.trod_int Try.underlying3 g3
    simp only [List.cons.injEq, and_true] at q0 q1 q2 q3
    subst q0 q1 q2 q3
    obtain ⟨a1, c1, As, rfl, -, l1, p1, r1⟩ := sliceG_open 22 45 2 32 prtV prtV_len (⟨0, []⟩, (none, 0)) Try.underlying22 (by decide) Try.cellsYP Try.bytesYP (GoodPX W) (fun h hw => partX_open h hw) g4 w4
    obtain ⟨a2, c2, Es, rfl, -, l2, p2, r2⟩ := sliceG_open 23 49 3 40 linV linV_len (⟨0, 0, []⟩, (none, 0)) Try.underlying23 (by decide) Try.cellsYL Try.bytesYL (GoodLX W) (fun h hw => lineX_open h hw) g5 w5
    obtain ⟨a3, c3, Os, rfl, -, l3, -, r3⟩ := sliceG_open 24 53 3 24 opV opV_len ⟨0, 0, 0⟩ Try.underlying24 (by decide) Try.cellsYO Try.bytesYO (fun _ => True) (fun h _ => opY_open h) g6 w6
    refine ⟨⟨z0, z1, z2, z3, As.map Prod.fst, Es.map Prod.fst, Os⟩, a1, c1, a2, c2, a3, c3, As, Es, by unfold prgV; simp only [List.length_map], ⟨rfl, atV_of r1, fun x hx => (p1 x hx).2.lies, rfl, atV_of r2, fun x hx => (p2 x hx).2.2.lies, atV_of r3⟩, ⟨⟨fun q hq => ?_, fun q hq => ?_⟩, fun q hq => ?_⟩, ⟨fun x hx => (p1 x hx).2, fun x hx => (p2 x hx).2.2, by rw [List.length_map]; exact l1, by rw [List.length_map]; exact l2, l3⟩⟩
    · obtain ⟨x, hx, rfl⟩ := List.mem_map.1 hq
      exact (p1 x hx).1
    · obtain ⟨x, hx, rfl⟩ := List.mem_map.1 hq
      exact (p2 x hx).1
    · obtain ⟨x, hx, rfl⟩ := List.mem_map.1 hq
      exact (p2 x hx).2.1
end
theorem run_append_zeroC {P : Program} {w : World} (base : Nat) (t ty e : TypeId) (i : TypeInfo) (size : Nat) (ht : P.underlying t = some (.slice e)) (hi : P.info? e = some i)
    (v : Value) (n : Nat) (xs : List Value) (hown : w.ownsRow base e size v n xs) (y : Option Addr) (c : Nat) :
    (Builtin.append_ #[t, t] ty #[v, .slice y 0 c]).run P w = .ok v w := by
  rcases hown.2 with ⟨rfl, rfl⟩ | ⟨g, cap, cur, rfl, _, _, hnc, _⟩
  · cases y <;> simp [Builtin.append_, run_underlying ht, sizeOf, typeInfo, hi, Builtin.lenOf, Builtin.firstCells, loadCells, loadCellsFrom]
  · cases y <;> simp [Builtin.append_, run_underlying ht, sizeOf, typeInfo, hi, Builtin.lenOf, Builtin.firstCells, hnc, storeCells, loadCells, loadCellsFrom]
/-- A row put behind nothing. -/
theorem wpList_appVNil {α : Type} {f : α → List Value} {c : Nat} {T : TypeId} {w : World} {ops : Array Oper} {rest : List Oper} {o : Oper} {a : Act} {Q : Exit → Act → World → Prop} (hgd : o.guard = none) (s x : Operand) (t : TypeId) (ho : o.op = .call { callee := .builtin .append, args := #[s, x], argTypes := #[t, t] })
    (ht : Try.prog.underlying t = some (.slice T)) (z : Value) (bytes : Nat) (hI : (Try.prog.info? T).map (fun i => (i.zero, i.size, i.bytes)) = some (some z, c, bytes)) (hz : z.cells.size = c) (hc0 : 0 < c) (hb0 : 0 < bytes) (hf : ∀ x, (f x).length = c) (h1 : ∀ x, ∀ u ∈ f x, u.oneCell' = true)
    (B : Nat) (hs : a.eval s = .slice none 0 0) (x2 : Option Addr) (M : List α) (n c2 : Nat) (hm : M.length = n) (hx : a.eval x = .slice x2 n c2) (hM : AtV f c w x2 M) (hn : n * bytes ≤ 140737488351232) (hB : B ≤ w.heap.size)
    (h : ∀ d c' w', CapV T f c B w' d c' M → Below w.heap.size w w' → wpList Try.prog ops Q rest (a.put o.dst (.slice d n c')) w') : wpList Try.prog ops Q (o :: rest) a w := by
  subst hm
  obtain ⟨i1, hi1, hy0, hy1, hy2⟩ := info_parts hI
  by_cases h0 : M = []
  · subst h0
    have hr := run_append_zeroC (P := Try.prog) (w := w) B t o.type T i1 c ht hi1 (.slice none 0 0) 0 [] (World.ownsRow_nil _ _ _ _) x2 c2
    refine wpList_plain hgd fun K hK => ?_
    unfold Oper.wp execOp
    simp only [ho, resolve, invoke, builtin, Sem.run_bind, Sem.run_pure, Result.andThen_ok, List.map_toArray, List.map_cons, List.map_nil, hs, hx, List.length_nil, hr]
    exact hK _ _ (h none 0 w (CapV.nil _ _) (Below.refl _ _))
  · rcases hM with e | ⟨b, off, rfl, hc⟩
    · exact absurd e h0
    have hmx : M.length ≤ M.length * bytes := Nat.le_mul_of_pos_right _ hb0
    refine wpList_append_told (P := Try.prog) w hgd s x t ho B T i1 z c bytes ht hi1 hy0 hy1 hy2 hz hc0 (.slice none 0 0) 0 [] hs (World.ownsRow_nil _ _ _ _) ⟨b, off, none⟩ M.length c2 (List.length_pos_iff.2 h0) (M.flatMap f) hx (flatV_len hf M) (fun j u hu => ?_) (fun u hu => ?_) (by unfold maxLen; omega) (by rw [Nat.zero_add]; omega) hB ?_
    · have hj : j < M.length * c := by have := (List.getElem?_eq_some_iff.1 hu).1; rw [flatV_len hf] at this; exact this
      have hk : j / c < M.length := Nat.div_lt_of_lt_mul (by rw [Nat.mul_comm]; exact hj)
      have hr : j % c < c := Nat.mod_lt _ hc0
      have e1 : j / c * c + j % c = j := by rw [Nat.mul_comm]; exact Nat.div_add_mod j c
      have hg := flatV_get hf (List.getElem?_eq_getElem hk) hr
      rw [e1, hu] at hg
      have q := hc _ _ (List.getElem?_eq_getElem hk) _ u hg.symm
      rw [Nat.add_assoc, e1] at q
      rw [Addr.add_lit]; exact q
    · obtain ⟨y, -, hy⟩ := List.mem_flatMap.1 hu
      exact h1 y u hy
    · intro v' w' h2 h3
      rw [Nat.zero_add, List.nil_append] at h2
      rcases h3 with ⟨g1, cap, e1, -, -⟩ | ⟨cap, rfl, hg⟩
      · cases e1
      · rw [Nat.zero_add] at h2 ⊢
        exact h _ _ w' h2 ((Below.refl _ _).grown hg (Nat.le_refl _) (fun k hk => by cases hk))
section
variable {α : Type} {f : α → List Value} {c : Nat} {T : TypeId} {BT : TypeId} {K fld B c0 ia is : Nat} {cs : Array Value} {d0 : Option Addr} {zs : List α} {b b' : α} {V : World} {Pb : α → World → Prop}
theorem GoV.swap {d : Nat → Bool} {u : World} (h : GoV BT K fld cs T f c B d0 c0 zs b V ia is d u) (hs : d is = false) : GoV BT K fld cs T f c B d0 c0 zs b' V ia is d u := ⟨h.sta, h.row, h.box, fun e => absurd e (by rw [hs]; decide)⟩
theorem SlV.up {B K Z Z' : Nat} {d0 : Option Addr} {L : List α} {u : World} {z : Value} (h : SlV T f c B K d0 Z' L u z) (hZ : Z ≤ Z') : SlV T f c B K d0 Z L u z := by
  obtain ⟨d, k, e, h1, h2, h3⟩ := h
  exact ⟨d, k, e, h1, h2, fun y hy => (h3 y hy).imp id fun h => Nat.le_trans hZ h⟩
/-- As GoV, of an element that is known only as it is laid. -/
def GoX (BT : TypeId) (K fld : Nat) (cs : Array Value) (T : TypeId) (f : α → List Value) (c B : Nat) (d0 : Option Addr) (c0 : Nat) (zs : List α) (Pb : α → World → Prop) (V : World) (ia is : Nat) (d : Nat → Bool) (u : World) : Prop := ∃ b, (d is = true → Pb b u) ∧ GoV BT K fld cs T f c B d0 c0 zs b V ia is d u
def ElX (f : α → List Value) (Pb : α → World → Prop) (u : World) (z : Value) : Prop := ∃ b, Pb b u ∧ ElV f b u z
def SlX (T : TypeId) (f : α → List Value) (c B K : Nat) (d0 : Option Addr) (Z : Nat) (zs : List α) (Pb : α → World → Prop) (u : World) (z : Value) : Prop := ∃ b, Pb b u ∧ SlV T f c B K d0 Z (zs ++ [b]) u z
theorem GoX.later (hP : ∀ b u u', Pb b u → Below u.heap.size u u' → Pb b u') {d : Nat → Bool} {u u' : World} (h : GoX BT K fld cs T f c B d0 c0 zs Pb V ia is d u) (hb : Below u.heap.size u u') : GoX BT K fld cs T f c B d0 c0 zs Pb V ia is d u' := by
  obtain ⟨b, h1, h2⟩ := h
  exact ⟨b, fun e => hP b u u' (h1 e) hb, h2.later hb⟩
theorem ElX.later (hP : ∀ b u u', Pb b u → Below u.heap.size u u' → Pb b u') {u u' : World} {z : Value} (h : ElX f Pb u z) (hb : Below u.heap.size u u') : ElX f Pb u' z := by
  obtain ⟨b, h1, h2⟩ := h
  exact ⟨b, hP b u u' h1 hb, h2.later hb⟩
theorem SlX.later (hP : ∀ b u u', Pb b u → Below u.heap.size u u' → Pb b u') {Z : Nat} {u u' : World} {z : Value} (h : SlX T f c B K d0 Z zs Pb u z) (hb : Below u.heap.size u u') : SlX T f c B K d0 Z zs Pb u' z := by
  obtain ⟨b, h1, h2⟩ := h
  exact ⟨b, hP b u u' h1 hb, h2.later hb⟩
end
def CpS (B : Nat) (zs : List Int) (n : Nat) (u : World) (z : Value) : Prop := ∃ a c, z = .slice a n c ∧ CapV 3 iV 1 B u a c zs
def BuP (B : Nat) (q : PrtC) (u : World) (z : Value) : Prop := ∃ a c, z = .agg #[.int .u8 (q.tag : Int), .slice a q.ps.length c] ∧ CapV 3 iV 1 B u a c q.ps
def BuL (B : Nat) (q : LinC) (u : World) (z : Value) : Prop := ∃ a c, z = .agg #[.int .i64 q.base, .int .i64 q.size, .slice a q.start.length c] ∧ CapV 3 iV 1 B u a c q.start
def PbP (B : Nat) (q : PrtC) (b : PrtC × (Option Addr × Nat)) (u : World) : Prop := b.1 = q ∧ CapV 3 iV 1 B u b.2.1 b.2.2 q.ps
def PbL (B : Nat) (q : LinC) (b : LinC × (Option Addr × Nat)) (u : World) : Prop := b.1 = q ∧ CapV 3 iV 1 B u b.2.1 b.2.2 q.start
theorem CpS.later {B : Nat} {zs : List Int} {n : Nat} {u u' : World} {z : Value} (h : CpS B zs n u z) (hb : Below u.heap.size u u') : CpS B zs n u' z := by
  obtain ⟨a, c, e, h⟩ := h
  exact ⟨a, c, e, h.later hb⟩
theorem BuP.later {B : Nat} {q : PrtC} {u u' : World} {z : Value} (h : BuP B q u z) (hb : Below u.heap.size u u') : BuP B q u' z := by
  obtain ⟨a, c, e, h⟩ := h
  exact ⟨a, c, e, h.later hb⟩
theorem BuL.later {B : Nat} {q : LinC} {u u' : World} {z : Value} (h : BuL B q u z) (hb : Below u.heap.size u u') : BuL B q u' z := by
  obtain ⟨a, c, e, h⟩ := h
  exact ⟨a, c, e, h.later hb⟩
section
variable {α : Type} {f : α → List Value} {c : Nat} {T : TypeId}
theorem mark_appVW {V w : World} {o : Oper} {ρ : Operand → Value} (s x : Operand) (t : TypeId) (ho : o.op = .call { callee := .builtin .append, args := #[s, x], argTypes := #[t, t] }) (ht : Try.prog.underlying t = some (.slice T))
    (z : Value) (bytes : Nat) (hI : (Try.prog.info? T).map (fun i => (i.zero, i.size, i.bytes)) = some (some z, c, bytes)) (hz : z.cells.size = c) (hc0 : 0 < c) (hbt : 0 < bytes) (hf : ∀ x, (f x).length = c) (h1 : ∀ x, ∀ u ∈ f x, u.oneCell' = true)
    {B K c0 : Nat} {d0 : Option Addr} {zs : List α} {b : α} (hs : ρ s = .slice d0 zs.length c0) (hown : CapV T f c B w d0 c0 zs) (hK : ∀ y, d0 = some y → y.block ≠ K) (hKw : K < w.heap.size) (hst : StaV K d0 V w) (hx : ElV f b w (ρ x)) (hn : (zs.length + 1) * bytes ≤ 140737488355328) (hB : B ≤ w.heap.size)
    {U : World → Value → Prop} (h : ∀ u v, SlV T f c B K d0 V.heap.size (zs ++ [b]) u v → StaV K d0 V u → u.heap[K]? = w.heap[K]? → U u v) : markUpon Try.prog w U ((execOp ρ o).run Try.prog w) := by
  obtain ⟨g, hx, h0⟩ := hx
  obtain ⟨i1, hi1, hy0, hy1, hy2⟩ := info_parts hI
  obtain ⟨v', w', hr, h2, h3⟩ := run_append_told (P := Try.prog) w B t o.type T i1 z c bytes ht hi1 hy0 hy1 hy2 hz hc0 (.slice d0 zs.length c0) zs.length _ hown ⟨g, 0, none⟩ 1 1 (by decide) (f b) (by rw [hf, Nat.one_mul]) (fun k u hu => by
    have e : (⟨g, 0, none⟩ : Addr).add k = ⟨g, k, none⟩ := by
      unfold Addr.add
      by_cases h0 : k = 0
      · subst h0; rfl
      · simp [h0]
    rw [e]; exact h0 k u hu) (h1 b) (by have h9 : zs.length + 1 ≤ (zs.length + 1) * bytes := Nat.le_mul_of_pos_right _ hbt; unfold maxLen; omega) hn hB
  have h2' : w'.ownsRow B T c v' (zs ++ [b]).length ((zs ++ [b]).flatMap f) := by rw [List.flatMap_append, List.length_append]; simpa using h2
  unfold execOp
  simp only [ho, resolve, invoke, builtin, Sem.run_bind, Sem.run_pure, Result.andThen_ok, List.map_toArray, List.map_cons, List.map_nil, hs, hx, hr]
  rcases h3 with ⟨g1, cap, e1, rfl, hg⟩ | ⟨cap, rfl, hg⟩
  · simp at e1
    have hg1 : g1 ≠ K := hK ⟨g1, 0, none⟩ e1.1
    refine h w' _ ⟨_, _, by rw [List.length_append]; rfl, by unfold CapV; rw [List.length_append] at h2' ⊢; exact h2', (fun y hy => by cases hy; exact hg1), fun y hy => by cases hy; exact .inl e1.1⟩ (hst.trans ⟨hg.os, hg.tape, hg.output, hg.size, fun k hk _ hne => hg.block k hk (fun e => by cases e; exact hne _ e1.1 rfl)⟩) (hg.block K hKw (fun e => by cases e; exact hg1 rfl))
  · refine h w' _ ⟨_, _, by rw [List.length_append]; rfl, by unfold CapV; rw [List.length_append] at h2' ⊢; exact h2', (fun y hy => by cases hy; show w.heap.size ≠ K; omega), fun y hy => by cases hy; exact .inr hst.size⟩ (hst.trans ⟨hg.os, hg.tape, hg.output, hg.size, fun k hk _ hne => hg.block k hk (fun e => by cases e)⟩) (hg.block K hKw (fun e => by cases e))
theorem row_sta {K B nb : Nat} {dr a : Option Addr} {u u' : World} {cr cc : Nat} {Z : List α} {zs : List Int} (h : CapV 3 iV 1 B u a cc zs) (hs : StaV K dr u u') (hr : CapV T f c nb u dr cr Z) (hT : T ≠ 3) (hK : K < B) : CapV 3 iV 1 B u' a cc zs :=
  h.keep fun y hy => hs.block y.block (h.lt y hy).2 (by have := (h.lt y hy).1; omega) (fun z hz => hr.ne_row h hT z y hz hy)
theorem CpS.sta {K B nb : Nat} {zs : List Int} {n : Nat} {dr : Option Addr} {u u' : World} {cr : Nat} {Z : List α} {z : Value} (h : CpS B zs n u z) (hs : StaV K dr u u') (hr : CapV T f c nb u dr cr Z) (hT : T ≠ 3) (hK : K < B) : CpS B zs n u' z := by
  obtain ⟨a, c, e, h⟩ := h
  exact ⟨a, c, e, row_sta h hs hr hT hK⟩
theorem CpS.but {K B : Nat} {zs : List Int} {n : Nat} {u u' : World} {z : Value} (h : CpS B zs n u z) (hb : But K u u') (hK : K < B) : CpS B zs n u' z := by
  obtain ⟨a, c, e, h⟩ := h
  exact ⟨a, c, e, h.but hb (fun y hy => by have := (h.lt y hy).1; omega)⟩
theorem BuP.sta {K B nb : Nat} {q : PrtC} {dr : Option Addr} {u u' : World} {cr : Nat} {Z : List α} {z : Value} (h : BuP B q u z) (hs : StaV K dr u u') (hr : CapV T f c nb u dr cr Z) (hT : T ≠ 3) (hK : K < B) : BuP B q u' z := by
  obtain ⟨a, c, e, h⟩ := h
  exact ⟨a, c, e, row_sta h hs hr hT hK⟩
theorem BuP.but {K B : Nat} {q : PrtC} {u u' : World} {z : Value} (h : BuP B q u z) (hb : But K u u') (hK : K < B) : BuP B q u' z := by
  obtain ⟨a, c, e, h⟩ := h
  exact ⟨a, c, e, h.but hb (fun y hy => by have := (h.lt y hy).1; omega)⟩
theorem BuL.sta {K B nb : Nat} {q : LinC} {dr : Option Addr} {u u' : World} {cr : Nat} {Z : List α} {z : Value} (h : BuL B q u z) (hs : StaV K dr u u') (hr : CapV T f c nb u dr cr Z) (hT : T ≠ 3) (hK : K < B) : BuL B q u' z := by
  obtain ⟨a, c, e, h⟩ := h
  exact ⟨a, c, e, row_sta h hs hr hT hK⟩
theorem BuL.but {K B : Nat} {q : LinC} {u u' : World} {z : Value} (h : BuL B q u z) (hb : But K u u') (hK : K < B) : BuL B q u' z := by
  obtain ⟨a, c, e, h⟩ := h
  exact ⟨a, c, e, h.but hb (fun y hy => by have := (h.lt y hy).1; omega)⟩
end
theorem copied_row {w w' : World} {a : Option Addr} {c : Nat} {zs : List Int} (h : CapR w.heap.size w' a c zs) : CapV 3 iV 1 w.heap.size w' a c zs := by
  unfold CapV
  have e : zs.flatMap iV = zs.map (Value.int .i64) := by
    clear h
    induction zs with
    | nil => rfl
    | cons z zs ih => rw [List.flatMap_cons, ih]; rfl
  rw [e]
  exact h
theorem Try.sizPg : (Try.prog.info? 26).map (·.size) = some 7 := by kernel_rfl
set_option maxRecDepth 100000 in
set_option maxHeartbeats 32000000 in
theorem rprogram_any (p : PrgC) (aP : Option Addr) (cP : Nat) (aL : Option Addr) (cL : Nat) (aO : Option Addr) (cO : Nat) (LP : List (PrtC × (Option Addr × Nat))) (LL : List (LinC × (Option Addr × Nat))) (W : World) (hL : PrgL W p aP aL aO LP LL) (hA : ArgG20 W p LP LL) :
    Calls Try.prog 7 #[prgV p aP cP aL cL aO cO] W fun e w' => ∃ b1 d1 b2 d2 b3 d3 MP ML, e = .returned (prgV p b1 d1 b2 d2 b3 d3) ∧ PrgO W.heap.size w' p b1 d1 b2 d2 b3 d3 MP ML ∧ Below W.heap.size W w' := by
  obtain ⟨PE, hPE⟩ : ∃ Q : Ending → World → Prop, (fun e w' => ∃ b1 d1 b2 d2 b3 d3 MP ML, e = .returned (prgV p b1 d1 b2 d2 b3 d3) ∧ PrgO W.heap.size w' p b1 d1 b2 d2 b3 d3 MP ML ∧ Below W.heap.size W w') = Q := ⟨_, rfl⟩
  rw [hPE]
  have HPE := hiddenC hPE
  have HL := hiddenC hL
  have HA := hiddenC hA
  have HLP := hiddenC hL.lenP
  have HLL := hiddenC hL.lenL
  have hnp := hA.np
  have hnl := hA.nl
  have hno := hA.no
  unfold prgV
  obtain ⟨nP, hnP⟩ : ∃ n, p.parts.length = n := ⟨_, rfl⟩
  obtain ⟨nL, hnL⟩ : ∃ n, p.lines.length = n := ⟨_, rfl⟩
  obtain ⟨nO, hnO⟩ : ∃ n, p.ops.length = n := ⟨_, rfl⟩
  have HNP := hiddenC hnP
  have HNL := hiddenC hnL
  have HNO := hiddenC hnO
  rw [hnP] at HLP hnp ⊢
  rw [hnL] at HLL hnl ⊢
  rw [hnO] at hno ⊢
  have y1 : Hid (Below W.heap.size W (W.alloc (.cells #[.int .i64 p.mem, .int .i64 p.cnt, .int .i64 p.ins, .int .i64 p.outs, .slice aP nP cP, .slice aL nL cL, .slice aO nO cO] 26))) := (Below.refl _ _).alloc (Nat.le_refl _) _
  have s1 : (W.alloc (.cells #[.int .i64 p.mem, .int .i64 p.cnt, .int .i64 p.ins, .int .i64 p.outs, .slice aP nP cP, .slice aL nL cL, .slice aO nO cO] 26)).heap.size = W.heap.size + 1 := World.size_alloc ..
  have y2 : Hid (Below (W.alloc (.cells #[.int .i64 p.mem, .int .i64 p.cnt, .int .i64 p.ins, .int .i64 p.outs, .slice aP nP cP, .slice aL nL cL, .slice aO nO cO] 26)).heap.size (W.alloc (.cells #[.int .i64 p.mem, .int .i64 p.cnt, .int .i64 p.ins, .int .i64 p.outs, .slice aP nP cP, .slice aL nL cL, .slice aO nO cO] 26)) ((W.alloc (.cells #[.int .i64 p.mem, .int .i64 p.cnt, .int .i64 p.ins, .int .i64 p.outs, .slice aP nP cP, .slice aL nL cL, .slice aO nO cO] 26)).alloc (.cells #[.int .i64 0, .int .i64 0, .int .i64 0, .int .i64 0, .slice none 0 0, .slice none 0 0, .slice none 0 0] 26))) := (Below.refl _ _).alloc (Nat.le_refl _) _
  have s2 : ((W.alloc (.cells #[.int .i64 p.mem, .int .i64 p.cnt, .int .i64 p.ins, .int .i64 p.outs, .slice aP nP cP, .slice aL nL cL, .slice aO nO cO] 26)).alloc (.cells #[.int .i64 0, .int .i64 0, .int .i64 0, .int .i64 0, .slice none 0 0, .slice none 0 0, .slice none 0 0] 26)).heap.size = W.heap.size + 1 + 1 := by rw [World.size_alloc, s1]
  have y3 : Hid (Below ((W.alloc (.cells #[.int .i64 p.mem, .int .i64 p.cnt, .int .i64 p.ins, .int .i64 p.outs, .slice aP nP cP, .slice aL nL cL, .slice aO nO cO] 26)).alloc (.cells #[.int .i64 0, .int .i64 0, .int .i64 0, .int .i64 0, .slice none 0 0, .slice none 0 0, .slice none 0 0] 26)).heap.size ((W.alloc (.cells #[.int .i64 p.mem, .int .i64 p.cnt, .int .i64 p.ins, .int .i64 p.outs, .slice aP nP cP, .slice aL nL cL, .slice aO nO cO] 26)).alloc (.cells #[.int .i64 0, .int .i64 0, .int .i64 0, .int .i64 0, .slice none 0 0, .slice none 0 0, .slice none 0 0] 26)) (((W.alloc (.cells #[.int .i64 p.mem, .int .i64 p.cnt, .int .i64 p.ins, .int .i64 p.outs, .slice aP nP cP, .slice aL nL cL, .slice aO nO cO] 26)).alloc (.cells #[.int .i64 0, .int .i64 0, .int .i64 0, .int .i64 0, .slice none 0 0, .slice none 0 0, .slice none 0 0] 26)).alloc (.cells #[.int .i64 p.mem, .int .i64 p.cnt, .int .i64 p.ins, .int .i64 p.outs, .slice aP nP cP, .slice aL nL cL, .slice aO nO cO] 26))) := (Below.refl _ _).alloc (Nat.le_refl _) _
  have G0 := hiddenC (((blkA_new 26 W #[.int .i64 p.mem, .int .i64 p.cnt, .int .i64 p.ins, .int .i64 p.outs, .slice aP nP cP, .slice aL nL cL, .slice aO nO cO]).below y2.out).below y3.out)
  have R0 := hiddenC ((blkA_new 26 (W.alloc (.cells #[.int .i64 p.mem, .int .i64 p.cnt, .int .i64 p.ins, .int .i64 p.outs, .slice aP nP cP, .slice aL nL cL, .slice aO nO cO] 26)) #[.int .i64 0, .int .i64 0, .int .i64 0, .int .i64 0, .slice none 0 0, .slice none 0 0, .slice none 0 0]).below y3.out)
  have Q0 := hiddenC (blkA_new 26 ((W.alloc (.cells #[.int .i64 p.mem, .int .i64 p.cnt, .int .i64 p.ins, .int .i64 p.outs, .slice aP nP cP, .slice aL nL cL, .slice aO nO cO] 26)).alloc (.cells #[.int .i64 0, .int .i64 0, .int .i64 0, .int .i64 0, .slice none 0 0, .slice none 0 0, .slice none 0 0] 26)) #[.int .i64 p.mem, .int .i64 p.cnt, .int .i64 p.ins, .int .i64 p.outs, .slice aP nP cP, .slice aL nL cL, .slice aO nO cO])
  have B0 := hiddenC ((y1.out.trans (y2.out.mono (by rw [s1]; omega))).trans (y3.out.mono (by rw [s2]; omega)))
  rw [s1] at R0
  rw [s2] at Q0
  clear hPE hL hA hnP hnL hnO y1 y2 y3 s1 s2
  go_enter Try.func7, Try.ntmps7
  go_upto_region 2 with fail
  generalize (((W.alloc (.cells #[.int .i64 p.mem, .int .i64 p.cnt, .int .i64 p.ins, .int .i64 p.outs, .slice aP nP cP, .slice aL nL cL, .slice aO nO cO] 26)).alloc (.cells #[.int .i64 0, .int .i64 0, .int .i64 0, .int .i64 0, .slice none 0 0, .slice none 0 0, .slice none 0 0] 26)).alloc (.cells #[.int .i64 p.mem, .int .i64 p.cnt, .int .i64 p.ins, .int .i64 p.outs, .slice aP nP cP, .slice aL nL cL, .slice aO nO cO] 26)) = W4 at *
  have z0 := G0.out.cell (k := 0) rfl
  have z1 := G0.out.cell (k := 1) rfl
  have z2 := G0.out.cell (k := 2) rfl
  have z3 := G0.out.cell (k := 3) rfl
  have z4 := G0.out.cell (k := 4) rfl
  have z5 := G0.out.cell (k := 5) rfl
  have z6 := G0.out.cell (k := 6) rfl
  simp only [List.getElem_toArray, List.getElem_cons_zero, List.getElem_cons_succ] at z0 z1 z2 z3 z4 z5 z6
  have f4 := Q0.out.frozen 4
  have f5 := (Q0.out.set 4 (.slice none 0 0)).frozen 5
  have f6 := ((Q0.out.set 4 (.slice none 0 0)).set 5 (.slice none 0 0)).frozen 6
  have g4 := Q0.out.cell (k := 4) rfl
  have g5 := (Q0.out.set 4 (.slice none 0 0)).cell (k := 5) rfl
  have g6 := ((Q0.out.set 4 (.slice none 0 0)).set 5 (.slice none 0 0)).cell (k := 6) rfl
  have Q5 : Hid (BlkA 26 (W.heap.size + 1 + 1) (((W4.setCell ⟨(W.heap.size + 1 + 1), 4, none⟩ (.slice none 0 0)).setCell ⟨(W.heap.size + 1 + 1), 5, none⟩ (.slice none 0 0)).setCell ⟨(W.heap.size + 1 + 1), 6, none⟩ (.slice none 0 0)) #[.int .i64 p.mem, .int .i64 p.cnt, .int .i64 p.ins, .int .i64 p.outs, .slice none 0 0, .slice none 0 0, .slice none 0 0]) := ((Q0.out.set 4 (.slice none 0 0)).set 5 (.slice none 0 0)).set 6 (.slice none 0 0)
  have G5 := hiddenC (((G0.out.but (But.set W4 (W.heap.size + 1 + 1) 4 (.slice none 0 0)) (by omega)).but (But.set _ (W.heap.size + 1 + 1) 5 (.slice none 0 0)) (by omega)).but (But.set _ (W.heap.size + 1 + 1) 6 (.slice none 0 0)) (by omega))
  have R5 := hiddenC (((R0.out.but (But.set W4 (W.heap.size + 1 + 1) 4 (.slice none 0 0)) (by omega)).but (But.set _ (W.heap.size + 1 + 1) 5 (.slice none 0 0)) (by omega)).but (But.set _ (W.heap.size + 1 + 1) 6 (.slice none 0 0)) (by omega))
  have B5 := hiddenC (((B0.out.setCell (p := ⟨(W.heap.size + 1 + 1), 4, none⟩) (by show _ ≤ (W.heap.size + 1 + 1); omega) (.slice none 0 0)).setCell (p := ⟨(W.heap.size + 1 + 1), 5, none⟩) (by show _ ≤ (W.heap.size + 1 + 1); omega) (.slice none 0 0)).setCell (p := ⟨(W.heap.size + 1 + 1), 6, none⟩) (by show _ ≤ (W.heap.size + 1 + 1); omega) (.slice none 0 0))
  go_upto_region 5 with fail
  generalize (((W4.setCell ⟨(W.heap.size + 1 + 1), 4, none⟩ (.slice none 0 0)).setCell ⟨(W.heap.size + 1 + 1), 5, none⟩ (.slice none 0 0)).setCell ⟨(W.heap.size + 1 + 1), 6, none⟩ (.slice none 0 0)) = W5 at *
  clear f4 f5 f6 g4 g5 g6 G0 R0 Q0 B0 z0 z1 z2 z3 z4 z5 z6
  obtain ⟨K, hK⟩ : ∃ q, (W.heap.size + 1 + 1) = q := ⟨_, rfl⟩
  have HK := hiddenC hK
  rw [hK] at Q5 ⊢
  have KW : Hid (W.heap.size + 1 < K) := by show _ < _; omega
  have BK : Hid (K + 1 ≤ W5.heap.size) := Q5.out.lt
  clear hK
  have z0 := G5.out.cell (k := 0) rfl
  have z1 := G5.out.cell (k := 1) rfl
  have z2 := G5.out.cell (k := 2) rfl
  have z3 := G5.out.cell (k := 3) rfl
  have z4 := G5.out.cell (k := 4) rfl
  have z5 := G5.out.cell (k := 5) rfl
  have z6 := G5.out.cell (k := 6) rfl
  simp only [List.getElem_toArray, List.getElem_cons_zero, List.getElem_cons_succ] at z0 z1 z2 z3 z4 z5 z6
  go_wp2
  obtain ⟨nb1, hnb1⟩ : ∃ q, W5.heap.size = q := ⟨_, rfl⟩
  have NB10 : Hid (nb1 ≤ W5.heap.size) := by show _ ≤ _; omega
  have NB11 : Hid (W5.heap.size ≤ nb1) := by show _ ≤ _; omega
  have NBK1 : Hid (K + 1 ≤ nb1) := by show _ ≤ _; rw [← hnb1]; exact BK.out
  clear hnb1
  go_loopg [4] nP (fun gk u4 wr => ∃ (kx : Nat) (d1 : Option Addr) (c1_ : Nat) (Z1 : List (PrtC × (Option Addr × Nat))), kx ≤ nP ∧ gk = nP - kx ∧ u4 = .int .i64 (kx : Int) ∧ Z1.map Prod.fst = (LP.take kx).map Prod.fst ∧ BlkA 26 K wr #[.int .i64 p.mem, .int .i64 p.cnt, .int .i64 p.ins, .int .i64 p.outs, .slice d1 Z1.length c1_, .slice none 0 0, .slice none 0 0] ∧ CapV 45 prtV 2 nb1 wr d1 c1_ Z1 ∧ (∀ x ∈ Z1, prtS nb1 x wr) ∧ But K W5 wr)
  case atStart => exact ⟨0, none, 0, [], Nat.zero_le _, rfl, rfl, rfl, Q5.out, CapV.nil _ _, (fun x hx => by cases hx), But.refl _ _⟩
  case round =>
    obtain ⟨kx, d1, c1_, Z1, hk, rfl, rfl, hmap, hbx, hrow, hin, hbl⟩ := hrel
    have HMAP := hiddenC hmap
    have BOXprt := hiddenC hbx
    have ROWprt := hiddenC hrow
    have HINprt := hiddenC hin
    have HBprt := hiddenC hbl
    have BOX := BOXprt
    have ROW := ROWprt
    have HIN := HINprt
    have HB := HBprt
    have NBR : Hid (nb1 ≤ wr.heap.size) := Nat.le_trans NB10.out hbl.size
    have lwprt : Hid (Below W.heap.size W wr) := B5.out.trans (hbl.below (by have := KW.out; omega) B5.out.size)
    have Gprt := hiddenC (G5.out.but hbl (by have := KW.out; omega))
    have RSprt := hiddenC (R5.out.but hbl (by have := KW.out; omega))
    have APprt : Hid (∀ y, d1 = some y → y.block ≠ K) := fun y hy => by have := (ROW.out.lt y hy).1; have := NBK1.out; omega
    have AP := APprt
    clear hmap hbx hrow hin hbl z0 z1 z2 z3 z4 z5 z6
    have z0 := Gprt.out.cell (k := 0) rfl
    have z1 := Gprt.out.cell (k := 1) rfl
    have z2 := Gprt.out.cell (k := 2) rfl
    have z3 := Gprt.out.cell (k := 3) rfl
    have z4 := Gprt.out.cell (k := 4) rfl
    have z5 := Gprt.out.cell (k := 5) rfl
    have z6 := Gprt.out.cell (k := 6) rfl
    simp only [List.getElem_toArray, List.getElem_cons_zero, List.getElem_cons_succ] at z0 z1 z2 z3 z4 z5 z6
    by_cases hlt : kx < nP
    · have hki : (kx : Int) < (nP : Int) := by omega
      have hkL : kx < LP.length := by rw [HLP.out]; exact hlt
      have hmm : LP[kx] ∈ LP := List.getElem_mem hkL
      have HAR := hiddenC (HA.out.pp _ hmm)
      rcases HL.out.pa with e1 | ⟨ab, off, rfl, hc⟩
      · rw [e1] at hkL; exact absurd hkL (Nat.not_lt_zero _)
      have c0 := hc kx _ (List.getElem?_eq_getElem hkL) 0 _ rfl
      have c1 := hc kx _ (List.getElem?_eq_getElem hkL) 1 _ rfl
      skip
      have TK : Hid ((LP.take (kx + 1)).map Prod.fst = Z1.map Prod.fst ++ [LP[kx].1]) := by
        show _ = _
        rw [List.take_add_one, List.getElem?_eq_getElem hkL, List.map_append, HMAP.out]; rfl
      obtain ⟨x, hx⟩ : ∃ x, LP[kx] = x := ⟨_, rfl⟩
      rw [hx] at c0 c1 HAR TK
      clear hc hmm hx
      obtain ⟨⟨tg, ps⟩, pa, pc⟩ := x
      simp only [Nat.add_zero] at c0 c1 HAR TK
      obtain ⟨nz, hnz⟩ : ∃ q, ps.length = q := ⟨_, rfl⟩
      have HNZ := hiddenC hnz
      rw [hnz] at c1 HAR
      clear hnz
      have NEG : Hid (ab ≠ K) := by show ab ≠ K; have h9 : ab < W.heap.size := World.block_lt_of_cell? _ _ c0; have := KW.out; omega
      have NDG : Hid (∀ y, d1 = some y → y.block ≠ ab) := fun y hy => by have := (ROW.out.lt y hy).1; have h9 : ab < W.heap.size := World.block_lt_of_cell? _ _ c0; have := KW.out; have := NBK1.out; omega
      have NEW : Hid (W.heap.size ≠ K) := by show _ ≠ _; have := KW.out; omega
      have NDW : Hid (∀ y, d1 = some y → y.block ≠ W.heap.size) := fun y hy => by have := (ROW.out.lt y hy).1; have := KW.out; have := NBK1.out; omega
      have c0 := cellC_later lwprt.out c0
      have c1 := cellC_later lwprt.out c1
      have BW : Hid (∀ u, StaV K d1 wr u → Below W.heap.size W u) := fun u hs => lwprt.out.trans ((hs.below (B := W.heap.size) (by have := KW.out; omega) (fun y hy => by have := (ROW.out.lt y hy).1; have := KW.out; have := NBK1.out; omega) lwprt.out.size))
      have IN : Hid (∀ U, Below W.heap.size W U → Calls Try.prog 20 #[.slice pa nz pc] U (CopiedC U nz ps)) := fun U hb => ints_own pa ps nz pc U (HAR.out.below hb)
      have ZL : Hid ((Z1.length + 1) * 32 ≤ 140737488355328) := by
        have q := congrArg List.length HMAP.out
        rw [List.length_map, List.length_map, List.length_take] at q
        show _ ≤ _; omega
      have KNB : Hid (K < nb1) := by show _ < _; have := NBK1.out; omega
      have PBL : Hid (∀ b u u', (PbP nb1 (⟨tg, ps⟩ : PrtC)) b u → Below u.heap.size u u' → (PbP nb1 (⟨tg, ps⟩ : PrtC)) b u') := fun b u u' h hb => ⟨h.1, h.2.later hb⟩
      have PBA : Hid (∀ b w1 u, (PbP nb1 (⟨tg, ps⟩ : PrtC)) b w1 → StaV K d1 w1 u → CapV 45 prtV 2 nb1 w1 d1 c1_ Z1 → (PbP nb1 (⟨tg, ps⟩ : PrtC)) b u) := fun b w1 u h hs hr => ⟨h.1, h.2.keep fun y hy => hs.block y.block (h.2.lt y hy).2 (by have := (h.2.lt y hy).1; have := NBK1.out; omega) (fun z hz => hr.ne_row h.2 (by decide) z y hz hy)⟩
      have PBS : Hid (∀ b w1 v, (PbP nb1 (⟨tg, ps⟩ : PrtC)) b w1 → (PbP nb1 (⟨tg, ps⟩ : PrtC)) b (w1.setCell ⟨K, 4, none⟩ v)) := fun b w1 v h => ⟨h.1, h.2.but (But.set _ _ _ _) (fun y hy => by have := (h.2.lt y hy).1; have := NBK1.out; omega)⟩
      go_upto_region 8 with fail
      try dsimp only [List.append_eq, List.cons_append, List.nil_append]
      refine wp_region_gen [17, 19] (fun d_ i u z => match i with
          | 0 => z = .pointer (some ⟨K, 4, none⟩)
          | 1 => z = .slice d1 Z1.length c1_
          | 2 => z = .pointer (some ⟨W.heap.size, 4, none⟩)
          | 3 => z = .slice (some ⟨ab, off, none⟩) nP cP
          | 4 => z = .int .i64 (kx : Int)
          | 5 => z = .pointer (some ⟨ab, off + kx * 2, none⟩)
          | 6 => z = .pointer (some ⟨ab, off + kx * 2, none⟩)
          | 7 => z = .int .u8 (tg : Int)
          | 8 => z = .pointer (some ⟨W.heap.size, 4, none⟩)
          | 9 => z = .slice (some ⟨ab, off, none⟩) nP cP
          | 10 => z = .int .i64 (kx : Int)
          | 11 => z = .pointer (some ⟨ab, off + kx * 2, none⟩)
          | 12 => z = .pointer (some ⟨ab, off + kx * 2 + 1, none⟩)
          | 13 => z = .slice pa nz pc
          | 14 => CpS nb1 ps nz u z
          | 15 => BuP nb1 (⟨tg, ps⟩ : PrtC) u z
          | 16 => (d_ 17 = false → ElX prtV (PbP nb1 (⟨tg, ps⟩ : PrtC)) u z)
          | 17 => (d_ 17 = true ∧ (d_ 19 = false → SlX 45 prtV 2 nb1 K d1 wr.heap.size Z1 (PbP nb1 (⟨tg, ps⟩ : PrtC)) u z))
          | 18 => z = .pointer (some ⟨K, 4, none⟩)
          | 19 => True
          | _ => True) (fun d_ u => GoX 26 K 4 #[.int .i64 p.mem, .int .i64 p.cnt, .int .i64 p.ins, .int .i64 p.outs, .slice d1 Z1.length c1_, .slice none 0 0, .slice none 0 0] 45 prtV 2 nb1 d1 c1_ Z1 (PbP nb1 (⟨tg, ps⟩ : PrtC)) wr 17 19 d_ u) (by kernel_rfl) (by kernel_rfl) (by kernel_rfl) ?_ ?_ ?_ ?_ ?_ ?_ (by kernel_rfl)
      · intro d_ i w_ v_ w' h hb_
        match i, h with
        | 0, h => exact h
        | 1, h => exact h
        | 2, h => exact h
        | 3, h => exact h
        | 4, h => exact h
        | 5, h => exact h
        | 6, h => exact h
        | 7, h => exact h
        | 8, h => exact h
        | 9, h => exact h
        | 10, h => exact h
        | 11, h => exact h
        | 12, h => exact h
        | 13, h => exact h
        | 14, h => exact CpS.later h hb_
        | 15, h => exact BuP.later h hb_
        | 16, h => exact fun e => ElX.later PBL.out (h e) hb_
        | 17, h => exact ⟨h.1, fun e => SlX.later PBL.out (h.2 e) hb_⟩
        | 18, h => exact h
        | 19, h => exact h
        | _ + 20, _ => trivial
      · intro d_ u u' h hb_
        exact GoX.later PBL.out h hb_
      · exact ⟨((⟨tg, ps⟩ : PrtC), (none, 0)), fun e => absurd e (by decide), GoV.start ROW.out BOX.out⟩
      · intro d_ i o ρ w' hm ho hf hg hC hcs hfs hfr hdep
        obtain ⟨b0, hb0, hC⟩ := hC
        match i, hm, ho, hf, hg, hfr, hdep with
        | 0, _, ho, hf, hg, hfr, hdep =>
          simp only [gTA, gCZ, gSI] at ho
          subst ho
          refine ⟨fun _ => ?_, fun hw => absurd (show true = false from hw) (by decide)⟩
          have ts : ρ (.tmp 3) = .pointer (some ⟨K, 0, none⟩) := hfr 3 (by kernel_rfl)
          simp [go_sem, ts]
          exact ⟨Below.refl _ _, rfl⟩
        | 1, _, ho, hf, hg, hfr, hdep =>
          simp only [gTA, gCZ, gCS, gSI] at ho
          subst ho
          refine ⟨fun _ => ?_, fun hw => absurd (show true = false from hw) (by decide)⟩
          have hs_ : d_ 19 = false := hf 19 (by decide) (by kernel_rfl)
          have cc : w'.cell? ⟨K, 4, none⟩ = some (.slice d1 Z1.length c1_) := (hC.box hs_).cell rfl
          have d0 : ρ (.tmp 17) = .pointer (some ⟨K, 4, none⟩) := hdep 0 17 (by kernel_rfl) (by kernel_rfl)
          simp [go_sem, d0, cc]
          exact ⟨Below.refl _ _, rfl⟩
        | 2, _, ho, hf, hg, hfr, hdep =>
          simp only [gTA, gCZ, gCS, gSI] at ho
          subst ho
          refine ⟨fun _ => ?_, fun hw => absurd (show true = false from hw) (by decide)⟩
          have ts : ρ (.tmp 1) = .pointer (some ⟨W.heap.size, 0, none⟩) := hfr 1 (by kernel_rfl)
          simp [go_sem, ts]
          exact ⟨Below.refl _ _, rfl⟩
        | 3, _, ho, hf, hg, hfr, hdep =>
          simp only [gTA, gCZ, gCS, gSI] at ho
          subst ho
          refine ⟨fun _ => ?_, fun hw => absurd (show true = false from hw) (by decide)⟩
          have k0 := hC.sta.cell z4 NEW.out NDW.out
          have d0 : ρ (.tmp 19) = .pointer (some ⟨W.heap.size, 4, none⟩) := hdep 2 19 (by kernel_rfl) (by kernel_rfl)
          simp [go_sem, d0, k0]
          exact ⟨Below.refl _ _, rfl⟩
        | 4, _, ho, hf, hg, hfr, hdep =>
          simp only [gTA, gCZ, gCS, gSI] at ho
          subst ho
          refine ⟨fun _ => ?_, fun hw => absurd (show true = false from hw) (by decide)⟩
          have ts : ρ (.tmp 4) = .int .i64 (kx : Int) := hfr 4 (by kernel_rfl)
          simp [go_sem, ts]
          exact ⟨Below.refl _ _, rfl⟩
        | 5, _, ho, hf, hg, hfr, hdep =>
          simp only [gTA, gCZ, gCS, gSI] at ho
          subst ho
          refine ⟨fun _ => ?_, fun hw => absurd (show true = false from hw) (by decide)⟩
          have d0 : ρ (.tmp 20) = .slice (some ⟨ab, off, none⟩) nP cP := hdep 3 20 (by kernel_rfl) (by kernel_rfl)
          have d1 : ρ (.tmp 21) = .int .i64 (kx : Int) := hdep 4 21 (by kernel_rfl) (by kernel_rfl)
          simp [go_sem, d0, d1, hki]
          exact ⟨Below.refl _ _, rfl⟩
        | 6, _, ho, hf, hg, hfr, hdep =>
          simp only [gTA, gCZ, gCS, gSI] at ho
          subst ho
          refine ⟨fun _ => ?_, fun hw => absurd (show true = false from hw) (by decide)⟩
          have d0 : ρ (.tmp 22) = .pointer (some ⟨ab, off + kx * 2, none⟩) := hdep 5 22 (by kernel_rfl) (by kernel_rfl)
          simp [go_sem, d0]
          exact ⟨Below.refl _ _, rfl⟩
        | 7, _, ho, hf, hg, hfr, hdep =>
          simp only [gTA, gCZ, gCS, gSI] at ho
          subst ho
          refine ⟨fun _ => ?_, fun hw => absurd (show true = false from hw) (by decide)⟩
          have k0 := hC.sta.cell c0 NEG.out NDG.out
          have d0 : ρ (.tmp 23) = .pointer (some ⟨ab, off + kx * 2, none⟩) := hdep 6 23 (by kernel_rfl) (by kernel_rfl)
          simp [go_sem, d0, k0]
          exact ⟨Below.refl _ _, rfl⟩
        | 8, _, ho, hf, hg, hfr, hdep =>
          simp only [gTA, gCZ, gCS, gSI] at ho
          subst ho
          refine ⟨fun _ => ?_, fun hw => absurd (show true = false from hw) (by decide)⟩
          have ts : ρ (.tmp 1) = .pointer (some ⟨W.heap.size, 0, none⟩) := hfr 1 (by kernel_rfl)
          simp [go_sem, ts]
          exact ⟨Below.refl _ _, rfl⟩
        | 9, _, ho, hf, hg, hfr, hdep =>
          simp only [gTA, gCZ, gCS, gSI] at ho
          subst ho
          refine ⟨fun _ => ?_, fun hw => absurd (show true = false from hw) (by decide)⟩
          have k0 := hC.sta.cell z4 NEW.out NDW.out
          have d0 : ρ (.tmp 25) = .pointer (some ⟨W.heap.size, 4, none⟩) := hdep 8 25 (by kernel_rfl) (by kernel_rfl)
          simp [go_sem, d0, k0]
          exact ⟨Below.refl _ _, rfl⟩
        | 10, _, ho, hf, hg, hfr, hdep =>
          simp only [gTA, gCZ, gCS, gSI] at ho
          subst ho
          refine ⟨fun _ => ?_, fun hw => absurd (show true = false from hw) (by decide)⟩
          have ts : ρ (.tmp 4) = .int .i64 (kx : Int) := hfr 4 (by kernel_rfl)
          simp [go_sem, ts]
          exact ⟨Below.refl _ _, rfl⟩
        | 11, _, ho, hf, hg, hfr, hdep =>
          simp only [gTA, gCZ, gCS, gSI] at ho
          subst ho
          refine ⟨fun _ => ?_, fun hw => absurd (show true = false from hw) (by decide)⟩
          have d0 : ρ (.tmp 26) = .slice (some ⟨ab, off, none⟩) nP cP := hdep 9 26 (by kernel_rfl) (by kernel_rfl)
          have d1 : ρ (.tmp 27) = .int .i64 (kx : Int) := hdep 10 27 (by kernel_rfl) (by kernel_rfl)
          simp [go_sem, d0, d1, hki]
          exact ⟨Below.refl _ _, rfl⟩
        | 12, _, ho, hf, hg, hfr, hdep =>
          simp only [gTA, gCZ, gCS, gSI] at ho
          subst ho
          refine ⟨fun _ => ?_, fun hw => absurd (show true = false from hw) (by decide)⟩
          have d0 : ρ (.tmp 28) = .pointer (some ⟨ab, off + kx * 2, none⟩) := hdep 11 28 (by kernel_rfl) (by kernel_rfl)
          simp [go_sem, d0]
          exact ⟨Below.refl _ _, rfl⟩
        | 13, _, ho, hf, hg, hfr, hdep =>
          simp only [gTA, gCZ, gCS, gSI] at ho
          subst ho
          refine ⟨fun _ => ?_, fun hw => absurd (show true = false from hw) (by decide)⟩
          have k0 := hC.sta.cell c1 NEG.out NDG.out
          have d0 : ρ (.tmp 29) = .pointer (some ⟨ab, off + kx * 2 + 1, none⟩) := hdep 12 29 (by kernel_rfl) (by kernel_rfl)
          simp [go_sem, d0, k0]
          exact ⟨Below.refl _ _, rfl⟩
        | 14, _, ho, hf, hg, hfr, hdep =>
          simp only [gTA, gCZ, gCS, gSI] at ho
          subst ho
          refine ⟨fun _ => ?_, fun hw => absurd (show true = false from hw) (by decide)⟩
          have t0 : ρ (.tmp 30) = .slice pa nz pc := hdep 13 30 (by kernel_rfl) (by kernel_rfl)
          simp [go_sem, t0, hfs]
          exact ⟨rfl, (IN.out w' (BW.out w' hC.sta)).mono fun e w'' ⟨a9, c9, e1, h1, h2⟩ => ⟨_, e1, h2, ⟨a9, c9, rfl, (copied_row h1).mono (Nat.le_trans NBR.out hC.sta.size)⟩⟩⟩
        | 15, _, ho, hf, hg, hfr, hdep =>
          simp only [gTA, gCZ, gCS, gSI] at ho
          subst ho
          refine ⟨fun _ => ?_, fun hw => absurd (show true = false from hw) (by decide)⟩
          have t0 : ρ (.tmp 24) = .int .u8 (tg : Int) := hdep 7 24 (by kernel_rfl) (by kernel_rfl)
          obtain ⟨a9, c9, e9, h9⟩ : CpS nb1 ps nz w' (ρ (.tmp 31)) := hdep 14 31 (by kernel_rfl) (by kernel_rfl)
          simp [go_sem, t0, e9]
          exact ⟨Below.refl _ _, ⟨a9, c9, by rw [← HNZ.out], h9⟩⟩
        | 16, _, ho, hf, hg, hfr, hdep =>
          simp only [gTA, gCZ, gCS, gSI] at ho
          subst ho
          refine ⟨fun _ => ?_, fun hw => absurd (show true = false from hw) (by decide)⟩
          obtain ⟨a9, c9, e9, h9⟩ : BuP nb1 (⟨tg, ps⟩ : PrtC) w' (ρ (.tmp 32)) := hdep 15 32 (by kernel_rfl) (by kernel_rfl)
          simp [go_sem, e9]
          exact ⟨(Below.refl _ _).alloc (Nat.le_refl _) _, fun _ => ⟨((⟨tg, ps⟩ : PrtC), (a9, c9)), ⟨rfl, h9.later ((Below.refl _ _).alloc (Nat.le_refl _) _)⟩, elV_new w' 45 _ rfl⟩⟩
        | 17, hm, _, _, _, _, _ => exact absurd hm (by decide)
        | 18, _, ho, hf, hg, hfr, hdep =>
          simp only [gTA, gCZ, gCS, gSI] at ho
          subst ho
          refine ⟨fun _ => ?_, fun hw => absurd (show true = false from hw) (by decide)⟩
          have ts : ρ (.tmp 3) = .pointer (some ⟨K, 0, none⟩) := hfr 3 (by kernel_rfl)
          simp [go_sem, ts]
          exact ⟨Below.refl _ _, rfl⟩
        | 19, hm, _, _, _, _, _ => exact absurd hm (by decide)
        | n + 20, _, ho, _, _, _, _ => simp at ho
      · intro d_ i o ρ w' hm ho h0 hf hg hC hcs hfs hfr hdep
        match i, hm, ho, h0, hf, hg, hfr, hdep with
        | 0, hm, _, _, _, _, _, _ => exact absurd hm (by decide)
        | 1, hm, _, _, _, _, _, _ => exact absurd hm (by decide)
        | 2, hm, _, _, _, _, _, _ => exact absurd hm (by decide)
        | 3, hm, _, _, _, _, _, _ => exact absurd hm (by decide)
        | 4, hm, _, _, _, _, _, _ => exact absurd hm (by decide)
        | 5, hm, _, _, _, _, _, _ => exact absurd hm (by decide)
        | 6, hm, _, _, _, _, _, _ => exact absurd hm (by decide)
        | 7, hm, _, _, _, _, _, _ => exact absurd hm (by decide)
        | 8, hm, _, _, _, _, _, _ => exact absurd hm (by decide)
        | 9, hm, _, _, _, _, _, _ => exact absurd hm (by decide)
        | 10, hm, _, _, _, _, _, _ => exact absurd hm (by decide)
        | 11, hm, _, _, _, _, _, _ => exact absurd hm (by decide)
        | 12, hm, _, _, _, _, _, _ => exact absurd hm (by decide)
        | 13, hm, _, _, _, _, _, _ => exact absurd hm (by decide)
        | 14, hm, _, _, _, _, _, _ => exact absurd hm (by decide)
        | 15, hm, _, _, _, _, _, _ => exact absurd hm (by decide)
        | 16, hm, _, _, _, _, _, _ => exact absurd hm (by decide)
        | 17, _, ho, h0, hf, hg, hfr, hdep =>
          simp only [gTA, gCZ, gCS, gSI] at ho
          subst ho
          obtain ⟨b0, hb0, hC⟩ := hC
          have t0 : ρ (.tmp 18) = .slice d1 Z1.length c1_ := hdep 1 18 (by kernel_rfl) (by kernel_rfl)
          obtain ⟨b1, hP1, t5⟩ : ElX prtV (PbP nb1 (⟨tg, ps⟩ : PrtC)) w' (ρ (.tmp 33)) := hdep 16 33 (by kernel_rfl) (by kernel_rfl) h0
          have hs_ : d_ 19 = false := hf 19 (by decide) (by kernel_rfl)
          refine ⟨rfl, mark_appVW (V := w') (.tmp 18) (.tmp 33) 22 rfl Try.underlying22 _ 32 Try.infoPrt rfl (by decide) (by decide) prtV_len prtV_one t0 (hC.row h0) AP.out (hC.box hs_).lt (StaV.of_below (Below.refl _ _)) t5 ZL.out (Nat.le_trans NBR.out hC.sta.size) ?_⟩
          intro u9 v9 hS9 hT9 hK9
          have hP9 := PBA.out b1 w' u9 hP1 hT9 (hC.row h0)
          have hS9 := hS9.up hC.sta.size
          refine ⟨⟨b1, fun _ => hP9, (hC.swap hs_).app (by decide) hs_ (hC.sta.trans hT9) hK9⟩, fun _ => ⟨doneC_eq _ _, fun _ => ⟨b1, hP9, hS9⟩⟩, ?_⟩
          intro j t hj hs
          match j, hs with
          | 0, hs => exact hs
          | 1, hs => exact hs
          | 2, hs => exact hs
          | 3, hs => exact hs
          | 4, hs => exact hs
          | 5, hs => exact hs
          | 6, hs => exact hs
          | 7, hs => exact hs
          | 8, hs => exact hs
          | 9, hs => exact hs
          | 10, hs => exact hs
          | 11, hs => exact hs
          | 12, hs => exact hs
          | 13, hs => exact hs
          | 14, hs => exact CpS.sta hs hT9 (hC.row h0) (by decide) KNB.out
          | 15, hs => exact BuP.sta hs hT9 (hC.row h0) (by decide) KNB.out
          | 16, hs => exact fun e => absurd e (by rw [doneC_eq]; decide)
          | 17, hs => exact absurd hs.1 (by rw [h0]; decide)
          | 18, hs => exact hs
          | 19, hs => trivial
          | _ + 20, _ => trivial
        | 18, hm, _, _, _, _, _, _ => exact absurd hm (by decide)
        | 19, _, ho, h0, hf, hg, hfr, hdep =>
          simp only [gTA, gCZ, gCS, gSI] at ho
          subst ho
          obtain ⟨b0, hb0, hC⟩ := hC
          have t0 : ρ (.tmp 35) = .pointer (some ⟨K, 4, none⟩) := hdep 18 35 (by kernel_rfl) (by kernel_rfl)
          have t9 : d_ 17 = true ∧ (d_ 19 = false → SlX 45 prtV 2 nb1 K d1 wr.heap.size Z1 (PbP nb1 (⟨tg, ps⟩ : PrtC)) w' (ρ (.tmp 34))) := hdep 17 34 (by kernel_rfl) (by kernel_rfl)
          obtain ⟨b1, hP1, hZ⟩ := t9.2 h0
          have hZ2 := hZ
          obtain ⟨qd, qk, e9, -, -, -⟩ := hZ
          rw [e9] at hZ2
          have hF := (hC.swap (b' := b1) h0).store (by decide) t9.1 h0 hZ2
          have c1_ := (hC.box h0).cell (k := 4) rfl
          have f1 := (hC.box h0).frozen 4
          have hln : ∀ b, (Z1 ++ [b]).length = Z1.length + 1 := fun b => List.length_append
          refine ⟨rfl, markUpon_skip (w' := w'.setCell ⟨K, 4, none⟩ (.slice qd (Z1 ++ [b1]).length qk)) (by simp [go_sem, t0, e9, c1_, f1]) ?_⟩
          refine ⟨⟨b1, fun _ => PBS.out b1 w' _ hP1, hF⟩, fun h => absurd rfl h, ?_⟩
          intro j t hj hs
          match j, hs with
          | 0, hs => exact hs
          | 1, hs => exact hs
          | 2, hs => exact hs
          | 3, hs => exact hs
          | 4, hs => exact hs
          | 5, hs => exact hs
          | 6, hs => exact hs
          | 7, hs => exact hs
          | 8, hs => exact hs
          | 9, hs => exact hs
          | 10, hs => exact hs
          | 11, hs => exact hs
          | 12, hs => exact hs
          | 13, hs => exact hs
          | 14, hs => exact CpS.but hs (But.set _ _ _ _) KNB.out
          | 15, hs => exact BuP.but hs (But.set _ _ _ _) KNB.out
          | 16, hs => exact fun e => absurd ((doneC_ne d_ (by decide)).symm.trans e) (by rw [t9.1]; decide)
          | 17, hs => exact ⟨(doneC_ne d_ (by decide)).trans hs.1, fun e => absurd e (by rw [doneC_eq]; decide)⟩
          | 18, hs => exact hs
          | 19, hs => trivial
          | _ + 20, _ => trivial
        | n + 20, _, ho, _, _, _, _, _ => simp at ho
      · intro U8 V8x hC8 hS
        simp only [puts, put_none]
        simp only [Act.put, List.setIfInBounds_toArray, List.set_cons_zero, List.set_cons_succ]
        clear hS
        obtain ⟨b, hP, hC8⟩ := hC8
        have hP := hP rfl
        obtain ⟨d2, c2, q1, q2, q3, q4⟩ := hC8.fin rfl
        have q1 : BlkA 26 K V8x #[.int .i64 p.mem, .int .i64 p.cnt, .int .i64 p.ins, .int .i64 p.outs, .slice d2 (Z1 ++ [b]).length c2, .slice none 0 0, .slice none 0 0] := q1
        have bel : But K W5 V8x := ⟨hC8.sta.os.trans HB.out.os, hC8.sta.tape.trans HB.out.tape, hC8.sta.output.trans HB.out.output, Nat.le_trans HB.out.size hC8.sta.size, fun k hk hne => (hC8.sta.block k (Nat.lt_of_lt_of_le hk HB.out.size) hne (fun y hy => by have := (ROW.out.lt y hy).1; have := NB11.out; omega)).trans (HB.out.block k hk hne)⟩
        have HS8 : Hid (∀ x ∈ Z1 ++ [b], prtS nb1 x V8x) := fun x hx => by
          rcases List.mem_append.1 hx with hx | hx
          · have h := HIN.out x hx
            exact CapV.keep h fun y hy => hC8.sta.block y.block (CapV.lt h y hy).2 (by have := (CapV.lt h y hy).1; have := NBK1.out; omega) (fun z hz => ROW.out.ne_row h (by decide) z y hz hy)
          · rw [List.mem_singleton.1 hx]
            have e := hP.1
            unfold prtS
            rw [e]
            exact hP.2
        have TK2 : Hid ((Z1 ++ [b]).map Prod.fst = (LP.take (kx + 1)).map Prod.fst) := by
          show _ = _
          rw [TK.out, List.map_append, List.map_singleton, hP.1]
        have BOX2 := hiddenC q1
        have ROW2 := hiddenC q2
        have HB2 := hiddenC bel
        have hwk : IntKind.i64.wrap ((kx : Int) + 1) = (kx : Int) + 1 := by rw [IntKind.wrap_i64]; omega
        clear q1 q2 q3 q4 bel hC8 hP
        go_wp2
        go_roundg (nP - (kx + 1))
        case measure => omega
        case rel => exact ⟨kx + 1, d2, c2, _, by omega, rfl, by go_num, TK2.out, BOX2.out, ROW2.out, HS8.out, HB2.out⟩
    · have hki : ¬ (kx : Int) < (nP : Int) := by omega
      have EFprt : Hid (Z1.map Prod.fst = LP.map Prod.fst) := by show _ = _; rw [HMAP.out, List.take_of_length_le (by rw [HLP.out]; omega)]
      generalize wr = V2 at *
      obtain ⟨nb2, hnb2⟩ : ∃ q, V2.heap.size = q := ⟨_, rfl⟩
      have NB20 : Hid (nb2 ≤ V2.heap.size) := by show _ ≤ _; omega
      have NB21 : Hid (V2.heap.size ≤ nb2) := by show _ ≤ _; omega
      have NBK2 : Hid (K + 1 ≤ nb2) := by show _ ≤ _; have := NBK1.out; have := NBR.out; omega
      clear hnb2 BOX ROW HIN HB AP HMAP NBR
      go_wp2
      go_loopg [5] nL (fun gk u4 wr => ∃ (kx : Nat) (dr : Option Addr) (cr : Nat) (Z : List (LinC × (Option Addr × Nat))), kx ≤ nL ∧ gk = nL - kx ∧ u4 = .int .i64 (kx : Int) ∧ Z.map Prod.fst = (LL.take kx).map Prod.fst ∧ BlkA 26 K wr #[.int .i64 p.mem, .int .i64 p.cnt, .int .i64 p.ins, .int .i64 p.outs, .slice d1 Z1.length c1_, .slice dr Z.length cr, .slice none 0 0] ∧ CapV 49 linV 3 nb2 wr dr cr Z ∧ (∀ x ∈ Z, linS nb2 x wr) ∧ But K V2 wr)
      case atStart => exact ⟨0, none, 0, [], Nat.zero_le _, rfl, rfl, rfl, BOXprt.out, CapV.nil _ _, (fun x hx => by cases hx), But.refl _ _⟩
      case round =>
        obtain ⟨kx, dr, cr, Z, hk, rfl, rfl, hmap, hbx, hrow, hin, hbl⟩ := hrel
        have HMAP := hiddenC hmap
        have BOXlin := hiddenC hbx
        have ROWlin := hiddenC hrow
        have HINlin := hiddenC hin
        have HBlin := hiddenC hbl
        have BOX := BOXlin
        have ROW := ROWlin
        have HIN := HINlin
        have HB := HBlin
        have NBR : Hid (nb2 ≤ wr.heap.size) := Nat.le_trans NB20.out hbl.size
        have lwlin : Hid (Below W.heap.size W wr) := lwprt.out.trans (hbl.below (by have := KW.out; omega) lwprt.out.size)
        have Glin := hiddenC (Gprt.out.but hbl (by have := KW.out; omega))
        have RSlin := hiddenC (RSprt.out.but hbl (by have := KW.out; omega))
        have APlin : Hid (∀ y, dr = some y → y.block ≠ K) := fun y hy => by have := (ROW.out.lt y hy).1; have := NBK2.out; omega
        have AP := APlin
        clear hmap hbx hrow hin hbl z0 z1 z2 z3 z4 z5 z6
        have z0 := Glin.out.cell (k := 0) rfl
        have z1 := Glin.out.cell (k := 1) rfl
        have z2 := Glin.out.cell (k := 2) rfl
        have z3 := Glin.out.cell (k := 3) rfl
        have z4 := Glin.out.cell (k := 4) rfl
        have z5 := Glin.out.cell (k := 5) rfl
        have z6 := Glin.out.cell (k := 6) rfl
        simp only [List.getElem_toArray, List.getElem_cons_zero, List.getElem_cons_succ] at z0 z1 z2 z3 z4 z5 z6
        by_cases hlt : kx < nL
        · have hki : (kx : Int) < (nL : Int) := by omega
          have hkL : kx < LL.length := by rw [HLL.out]; exact hlt
          have hmm : LL[kx] ∈ LL := List.getElem_mem hkL
          have HAR := hiddenC (HA.out.lp _ hmm)
          rcases HL.out.la with e1 | ⟨ab, off, rfl, hc⟩
          · rw [e1] at hkL; exact absurd hkL (Nat.not_lt_zero _)
          have c0 := hc kx _ (List.getElem?_eq_getElem hkL) 0 _ rfl
          have c1 := hc kx _ (List.getElem?_eq_getElem hkL) 1 _ rfl
          have c2 := hc kx _ (List.getElem?_eq_getElem hkL) 2 _ rfl
          have TK : Hid ((LL.take (kx + 1)).map Prod.fst = Z.map Prod.fst ++ [LL[kx].1]) := by
            show _ = _
            rw [List.take_add_one, List.getElem?_eq_getElem hkL, List.map_append, HMAP.out]; rfl
          obtain ⟨x, hx⟩ : ∃ x, LL[kx] = x := ⟨_, rfl⟩
          rw [hx] at c0 c1 c2 HAR TK
          clear hc hmm hx
          obtain ⟨⟨lb, ls, ps⟩, pa, pc⟩ := x
          simp only [Nat.add_zero] at c0 c1 c2 HAR TK
          obtain ⟨nz, hnz⟩ : ∃ q, ps.length = q := ⟨_, rfl⟩
          have HNZ := hiddenC hnz
          rw [hnz] at c2 HAR
          clear hnz
          have NEG : Hid (ab ≠ K) := by show ab ≠ K; have h9 : ab < W.heap.size := World.block_lt_of_cell? _ _ c0; have := KW.out; omega
          have NDG : Hid (∀ y, dr = some y → y.block ≠ ab) := fun y hy => by have := (ROW.out.lt y hy).1; have h9 : ab < W.heap.size := World.block_lt_of_cell? _ _ c0; have := KW.out; have := NBK2.out; omega
          have NEW : Hid (W.heap.size ≠ K) := by show _ ≠ _; have := KW.out; omega
          have NDW : Hid (∀ y, dr = some y → y.block ≠ W.heap.size) := fun y hy => by have := (ROW.out.lt y hy).1; have := KW.out; have := NBK2.out; omega
          have c0 := cellC_later lwlin.out c0
          have c1 := cellC_later lwlin.out c1
          have c2 := cellC_later lwlin.out c2
          have BW : Hid (∀ u, StaV K dr wr u → Below W.heap.size W u) := fun u hs => lwlin.out.trans ((hs.below (B := W.heap.size) (by have := KW.out; omega) (fun y hy => by have := (ROW.out.lt y hy).1; have := KW.out; have := NBK2.out; omega) lwlin.out.size))
          have IN : Hid (∀ U, Below W.heap.size W U → Calls Try.prog 20 #[.slice pa nz pc] U (CopiedC U nz ps)) := fun U hb => ints_own pa ps nz pc U (HAR.out.below hb)
          have ZL : Hid ((Z.length + 1) * 40 ≤ 140737488355328) := by
            have q := congrArg List.length HMAP.out
            rw [List.length_map, List.length_map, List.length_take] at q
            show _ ≤ _; omega
          have KNB : Hid (K < nb2) := by show _ < _; have := NBK2.out; omega
          have PBL : Hid (∀ b u u', (PbL nb2 (⟨lb, ls, ps⟩ : LinC)) b u → Below u.heap.size u u' → (PbL nb2 (⟨lb, ls, ps⟩ : LinC)) b u') := fun b u u' h hb => ⟨h.1, h.2.later hb⟩
          have PBA : Hid (∀ b w1 u, (PbL nb2 (⟨lb, ls, ps⟩ : LinC)) b w1 → StaV K dr w1 u → CapV 49 linV 3 nb2 w1 dr cr Z → (PbL nb2 (⟨lb, ls, ps⟩ : LinC)) b u) := fun b w1 u h hs hr => ⟨h.1, h.2.keep fun y hy => hs.block y.block (h.2.lt y hy).2 (by have := (h.2.lt y hy).1; have := NBK2.out; omega) (fun z hz => hr.ne_row h.2 (by decide) z y hz hy)⟩
          have PBS : Hid (∀ b w1 v, (PbL nb2 (⟨lb, ls, ps⟩ : LinC)) b w1 → (PbL nb2 (⟨lb, ls, ps⟩ : LinC)) b (w1.setCell ⟨K, 5, none⟩ v)) := fun b w1 v h => ⟨h.1, h.2.but (But.set _ _ _ _) (fun y hy => by have := (h.2.lt y hy).1; have := NBK2.out; omega)⟩
          go_upto_region 12 with fail
          try dsimp only [List.append_eq, List.cons_append, List.nil_append]
          refine wp_region_gen [17, 19] (fun d_ i u z => match i with
              | 0 => z = .pointer (some ⟨K, 5, none⟩)
              | 1 => z = .slice dr Z.length cr
              | 2 => z = .pointer (some ⟨W.heap.size, 5, none⟩)
              | 3 => z = .slice (some ⟨ab, off, none⟩) nL cL
              | 4 => z = .int .i64 (kx : Int)
              | 5 => z = .pointer (some ⟨ab, off + kx * 3, none⟩)
              | 6 => z = .pointer (some ⟨ab, off + kx * 3, none⟩)
              | 7 => z = .agg #[.int .i64 lb, .int .i64 ls]
              | 8 => z = .pointer (some ⟨W.heap.size, 5, none⟩)
              | 9 => z = .slice (some ⟨ab, off, none⟩) nL cL
              | 10 => z = .int .i64 (kx : Int)
              | 11 => z = .pointer (some ⟨ab, off + kx * 3, none⟩)
              | 12 => z = .pointer (some ⟨ab, off + kx * 3 + 2, none⟩)
              | 13 => z = .slice pa nz pc
              | 14 => CpS nb2 ps nz u z
              | 15 => BuL nb2 (⟨lb, ls, ps⟩ : LinC) u z
              | 16 => (d_ 17 = false → ElX linV (PbL nb2 (⟨lb, ls, ps⟩ : LinC)) u z)
              | 17 => (d_ 17 = true ∧ (d_ 19 = false → SlX 49 linV 3 nb2 K dr wr.heap.size Z (PbL nb2 (⟨lb, ls, ps⟩ : LinC)) u z))
              | 18 => z = .pointer (some ⟨K, 5, none⟩)
              | 19 => True
              | _ => True) (fun d_ u => GoX 26 K 5 #[.int .i64 p.mem, .int .i64 p.cnt, .int .i64 p.ins, .int .i64 p.outs, .slice d1 Z1.length c1_, .slice dr Z.length cr, .slice none 0 0] 49 linV 3 nb2 dr cr Z (PbL nb2 (⟨lb, ls, ps⟩ : LinC)) wr 17 19 d_ u) (by kernel_rfl) (by kernel_rfl) (by kernel_rfl) ?_ ?_ ?_ ?_ ?_ ?_ (by kernel_rfl)
          · intro d_ i w_ v_ w' h hb_
            match i, h with
            | 0, h => exact h
            | 1, h => exact h
            | 2, h => exact h
            | 3, h => exact h
            | 4, h => exact h
            | 5, h => exact h
            | 6, h => exact h
            | 7, h => exact h
            | 8, h => exact h
            | 9, h => exact h
            | 10, h => exact h
            | 11, h => exact h
            | 12, h => exact h
            | 13, h => exact h
            | 14, h => exact CpS.later h hb_
            | 15, h => exact BuL.later h hb_
            | 16, h => exact fun e => ElX.later PBL.out (h e) hb_
            | 17, h => exact ⟨h.1, fun e => SlX.later PBL.out (h.2 e) hb_⟩
            | 18, h => exact h
            | 19, h => exact h
            | _ + 20, _ => trivial
          · intro d_ u u' h hb_
            exact GoX.later PBL.out h hb_
          · exact ⟨((⟨lb, ls, ps⟩ : LinC), (none, 0)), fun e => absurd e (by decide), GoV.start ROW.out BOX.out⟩
          · intro d_ i o ρ w' hm ho hf hg hC hcs hfs hfr hdep
            obtain ⟨b0, hb0, hC⟩ := hC
            match i, hm, ho, hf, hg, hfr, hdep with
            | 0, _, ho, hf, hg, hfr, hdep =>
              simp only [gTA, gCZ, gSI] at ho
              subst ho
              refine ⟨fun _ => ?_, fun hw => absurd (show true = false from hw) (by decide)⟩
              have ts : ρ (.tmp 3) = .pointer (some ⟨K, 0, none⟩) := hfr 3 (by kernel_rfl)
              simp [go_sem, ts]
              exact ⟨Below.refl _ _, rfl⟩
            | 1, _, ho, hf, hg, hfr, hdep =>
              simp only [gTA, gCZ, gCS, gSI] at ho
              subst ho
              refine ⟨fun _ => ?_, fun hw => absurd (show true = false from hw) (by decide)⟩
              have hs_ : d_ 19 = false := hf 19 (by decide) (by kernel_rfl)
              have cc : w'.cell? ⟨K, 5, none⟩ = some (.slice dr Z.length cr) := (hC.box hs_).cell rfl
              have d0 : ρ (.tmp 43) = .pointer (some ⟨K, 5, none⟩) := hdep 0 43 (by kernel_rfl) (by kernel_rfl)
              simp [go_sem, d0, cc]
              exact ⟨Below.refl _ _, rfl⟩
            | 2, _, ho, hf, hg, hfr, hdep =>
              simp only [gTA, gCZ, gCS, gSI] at ho
              subst ho
              refine ⟨fun _ => ?_, fun hw => absurd (show true = false from hw) (by decide)⟩
              have ts : ρ (.tmp 1) = .pointer (some ⟨W.heap.size, 0, none⟩) := hfr 1 (by kernel_rfl)
              simp [go_sem, ts]
              exact ⟨Below.refl _ _, rfl⟩
            | 3, _, ho, hf, hg, hfr, hdep =>
              simp only [gTA, gCZ, gCS, gSI] at ho
              subst ho
              refine ⟨fun _ => ?_, fun hw => absurd (show true = false from hw) (by decide)⟩
              have k0 := hC.sta.cell z5 NEW.out NDW.out
              have d0 : ρ (.tmp 45) = .pointer (some ⟨W.heap.size, 5, none⟩) := hdep 2 45 (by kernel_rfl) (by kernel_rfl)
              simp [go_sem, d0, k0]
              exact ⟨Below.refl _ _, rfl⟩
            | 4, _, ho, hf, hg, hfr, hdep =>
              simp only [gTA, gCZ, gCS, gSI] at ho
              subst ho
              refine ⟨fun _ => ?_, fun hw => absurd (show true = false from hw) (by decide)⟩
              have ts : ρ (.tmp 5) = .int .i64 (kx : Int) := hfr 5 (by kernel_rfl)
              simp [go_sem, ts]
              exact ⟨Below.refl _ _, rfl⟩
            | 5, _, ho, hf, hg, hfr, hdep =>
              simp only [gTA, gCZ, gCS, gSI] at ho
              subst ho
              refine ⟨fun _ => ?_, fun hw => absurd (show true = false from hw) (by decide)⟩
              have d0 : ρ (.tmp 46) = .slice (some ⟨ab, off, none⟩) nL cL := hdep 3 46 (by kernel_rfl) (by kernel_rfl)
              have d1 : ρ (.tmp 47) = .int .i64 (kx : Int) := hdep 4 47 (by kernel_rfl) (by kernel_rfl)
              simp [go_sem, d0, d1, hki]
              exact ⟨Below.refl _ _, rfl⟩
            | 6, _, ho, hf, hg, hfr, hdep =>
              simp only [gTA, gCZ, gCS, gSI] at ho
              subst ho
              refine ⟨fun _ => ?_, fun hw => absurd (show true = false from hw) (by decide)⟩
              have d0 : ρ (.tmp 48) = .pointer (some ⟨ab, off + kx * 3, none⟩) := hdep 5 48 (by kernel_rfl) (by kernel_rfl)
              simp [go_sem, d0]
              exact ⟨Below.refl _ _, rfl⟩
            | 7, _, ho, hf, hg, hfr, hdep =>
              simp only [gTA, gCZ, gCS, gSI] at ho
              subst ho
              refine ⟨fun _ => ?_, fun hw => absurd (show true = false from hw) (by decide)⟩
              have k0 := hC.sta.cell c0 NEG.out NDG.out
              have k1 := hC.sta.cell c1 NEG.out NDG.out
              have d0 : ρ (.tmp 49) = .pointer (some ⟨ab, off + kx * 3, none⟩) := hdep 6 49 (by kernel_rfl) (by kernel_rfl)
              simp [go_sem, d0, k0, k1]
              exact ⟨Below.refl _ _, rfl⟩
            | 8, _, ho, hf, hg, hfr, hdep =>
              simp only [gTA, gCZ, gCS, gSI] at ho
              subst ho
              refine ⟨fun _ => ?_, fun hw => absurd (show true = false from hw) (by decide)⟩
              have ts : ρ (.tmp 1) = .pointer (some ⟨W.heap.size, 0, none⟩) := hfr 1 (by kernel_rfl)
              simp [go_sem, ts]
              exact ⟨Below.refl _ _, rfl⟩
            | 9, _, ho, hf, hg, hfr, hdep =>
              simp only [gTA, gCZ, gCS, gSI] at ho
              subst ho
              refine ⟨fun _ => ?_, fun hw => absurd (show true = false from hw) (by decide)⟩
              have k0 := hC.sta.cell z5 NEW.out NDW.out
              have d0 : ρ (.tmp 51) = .pointer (some ⟨W.heap.size, 5, none⟩) := hdep 8 51 (by kernel_rfl) (by kernel_rfl)
              simp [go_sem, d0, k0]
              exact ⟨Below.refl _ _, rfl⟩
            | 10, _, ho, hf, hg, hfr, hdep =>
              simp only [gTA, gCZ, gCS, gSI] at ho
              subst ho
              refine ⟨fun _ => ?_, fun hw => absurd (show true = false from hw) (by decide)⟩
              have ts : ρ (.tmp 5) = .int .i64 (kx : Int) := hfr 5 (by kernel_rfl)
              simp [go_sem, ts]
              exact ⟨Below.refl _ _, rfl⟩
            | 11, _, ho, hf, hg, hfr, hdep =>
              simp only [gTA, gCZ, gCS, gSI] at ho
              subst ho
              refine ⟨fun _ => ?_, fun hw => absurd (show true = false from hw) (by decide)⟩
              have d0 : ρ (.tmp 52) = .slice (some ⟨ab, off, none⟩) nL cL := hdep 9 52 (by kernel_rfl) (by kernel_rfl)
              have d1 : ρ (.tmp 53) = .int .i64 (kx : Int) := hdep 10 53 (by kernel_rfl) (by kernel_rfl)
              simp [go_sem, d0, d1, hki]
              exact ⟨Below.refl _ _, rfl⟩
            | 12, _, ho, hf, hg, hfr, hdep =>
              simp only [gTA, gCZ, gCS, gSI] at ho
              subst ho
              refine ⟨fun _ => ?_, fun hw => absurd (show true = false from hw) (by decide)⟩
              have d0 : ρ (.tmp 54) = .pointer (some ⟨ab, off + kx * 3, none⟩) := hdep 11 54 (by kernel_rfl) (by kernel_rfl)
              simp [go_sem, d0]
              exact ⟨Below.refl _ _, rfl⟩
            | 13, _, ho, hf, hg, hfr, hdep =>
              simp only [gTA, gCZ, gCS, gSI] at ho
              subst ho
              refine ⟨fun _ => ?_, fun hw => absurd (show true = false from hw) (by decide)⟩
              have k0 := hC.sta.cell c2 NEG.out NDG.out
              have d0 : ρ (.tmp 55) = .pointer (some ⟨ab, off + kx * 3 + 2, none⟩) := hdep 12 55 (by kernel_rfl) (by kernel_rfl)
              simp [go_sem, d0, k0]
              exact ⟨Below.refl _ _, rfl⟩
            | 14, _, ho, hf, hg, hfr, hdep =>
              simp only [gTA, gCZ, gCS, gSI] at ho
              subst ho
              refine ⟨fun _ => ?_, fun hw => absurd (show true = false from hw) (by decide)⟩
              have t0 : ρ (.tmp 56) = .slice pa nz pc := hdep 13 56 (by kernel_rfl) (by kernel_rfl)
              simp [go_sem, t0, hfs]
              exact ⟨rfl, (IN.out w' (BW.out w' hC.sta)).mono fun e w'' ⟨a9, c9, e1, h1, h2⟩ => ⟨_, e1, h2, ⟨a9, c9, rfl, (copied_row h1).mono (Nat.le_trans NBR.out hC.sta.size)⟩⟩⟩
            | 15, _, ho, hf, hg, hfr, hdep =>
              simp only [gTA, gCZ, gCS, gSI] at ho
              subst ho
              refine ⟨fun _ => ?_, fun hw => absurd (show true = false from hw) (by decide)⟩
              have t0 : ρ (.tmp 50) = .agg #[.int .i64 lb, .int .i64 ls] := hdep 7 50 (by kernel_rfl) (by kernel_rfl)
              obtain ⟨a9, c9, e9, h9⟩ : CpS nb2 ps nz w' (ρ (.tmp 57)) := hdep 14 57 (by kernel_rfl) (by kernel_rfl)
              simp [go_sem, t0, e9]
              exact ⟨Below.refl _ _, ⟨a9, c9, by rw [← HNZ.out], h9⟩⟩
            | 16, _, ho, hf, hg, hfr, hdep =>
              simp only [gTA, gCZ, gCS, gSI] at ho
              subst ho
              refine ⟨fun _ => ?_, fun hw => absurd (show true = false from hw) (by decide)⟩
              obtain ⟨a9, c9, e9, h9⟩ : BuL nb2 (⟨lb, ls, ps⟩ : LinC) w' (ρ (.tmp 58)) := hdep 15 58 (by kernel_rfl) (by kernel_rfl)
              simp [go_sem, e9]
              exact ⟨(Below.refl _ _).alloc (Nat.le_refl _) _, fun _ => ⟨((⟨lb, ls, ps⟩ : LinC), (a9, c9)), ⟨rfl, h9.later ((Below.refl _ _).alloc (Nat.le_refl _) _)⟩, elV_new w' 49 _ rfl⟩⟩
            | 17, hm, _, _, _, _, _ => exact absurd hm (by decide)
            | 18, _, ho, hf, hg, hfr, hdep =>
              simp only [gTA, gCZ, gCS, gSI] at ho
              subst ho
              refine ⟨fun _ => ?_, fun hw => absurd (show true = false from hw) (by decide)⟩
              have ts : ρ (.tmp 3) = .pointer (some ⟨K, 0, none⟩) := hfr 3 (by kernel_rfl)
              simp [go_sem, ts]
              exact ⟨Below.refl _ _, rfl⟩
            | 19, hm, _, _, _, _, _ => exact absurd hm (by decide)
            | n + 20, _, ho, _, _, _, _ => simp at ho
          · intro d_ i o ρ w' hm ho h0 hf hg hC hcs hfs hfr hdep
            match i, hm, ho, h0, hf, hg, hfr, hdep with
            | 0, hm, _, _, _, _, _, _ => exact absurd hm (by decide)
            | 1, hm, _, _, _, _, _, _ => exact absurd hm (by decide)
            | 2, hm, _, _, _, _, _, _ => exact absurd hm (by decide)
            | 3, hm, _, _, _, _, _, _ => exact absurd hm (by decide)
            | 4, hm, _, _, _, _, _, _ => exact absurd hm (by decide)
            | 5, hm, _, _, _, _, _, _ => exact absurd hm (by decide)
            | 6, hm, _, _, _, _, _, _ => exact absurd hm (by decide)
            | 7, hm, _, _, _, _, _, _ => exact absurd hm (by decide)
            | 8, hm, _, _, _, _, _, _ => exact absurd hm (by decide)
            | 9, hm, _, _, _, _, _, _ => exact absurd hm (by decide)
            | 10, hm, _, _, _, _, _, _ => exact absurd hm (by decide)
            | 11, hm, _, _, _, _, _, _ => exact absurd hm (by decide)
            | 12, hm, _, _, _, _, _, _ => exact absurd hm (by decide)
            | 13, hm, _, _, _, _, _, _ => exact absurd hm (by decide)
            | 14, hm, _, _, _, _, _, _ => exact absurd hm (by decide)
            | 15, hm, _, _, _, _, _, _ => exact absurd hm (by decide)
            | 16, hm, _, _, _, _, _, _ => exact absurd hm (by decide)
            | 17, _, ho, h0, hf, hg, hfr, hdep =>
              simp only [gTA, gCZ, gCS, gSI] at ho
              subst ho
              obtain ⟨b0, hb0, hC⟩ := hC
              have t0 : ρ (.tmp 44) = .slice dr Z.length cr := hdep 1 44 (by kernel_rfl) (by kernel_rfl)
              obtain ⟨b1, hP1, t5⟩ : ElX linV (PbL nb2 (⟨lb, ls, ps⟩ : LinC)) w' (ρ (.tmp 59)) := hdep 16 59 (by kernel_rfl) (by kernel_rfl) h0
              have hs_ : d_ 19 = false := hf 19 (by decide) (by kernel_rfl)
              refine ⟨rfl, mark_appVW (V := w') (.tmp 44) (.tmp 59) 23 rfl Try.underlying23 _ 40 Try.infoLin rfl (by decide) (by decide) linV_len linV_one t0 (hC.row h0) AP.out (hC.box hs_).lt (StaV.of_below (Below.refl _ _)) t5 ZL.out (Nat.le_trans NBR.out hC.sta.size) ?_⟩
              intro u9 v9 hS9 hT9 hK9
              have hP9 := PBA.out b1 w' u9 hP1 hT9 (hC.row h0)
              have hS9 := hS9.up hC.sta.size
              refine ⟨⟨b1, fun _ => hP9, (hC.swap hs_).app (by decide) hs_ (hC.sta.trans hT9) hK9⟩, fun _ => ⟨doneC_eq _ _, fun _ => ⟨b1, hP9, hS9⟩⟩, ?_⟩
              intro j t hj hs
              match j, hs with
              | 0, hs => exact hs
              | 1, hs => exact hs
              | 2, hs => exact hs
              | 3, hs => exact hs
              | 4, hs => exact hs
              | 5, hs => exact hs
              | 6, hs => exact hs
              | 7, hs => exact hs
              | 8, hs => exact hs
              | 9, hs => exact hs
              | 10, hs => exact hs
              | 11, hs => exact hs
              | 12, hs => exact hs
              | 13, hs => exact hs
              | 14, hs => exact CpS.sta hs hT9 (hC.row h0) (by decide) KNB.out
              | 15, hs => exact BuL.sta hs hT9 (hC.row h0) (by decide) KNB.out
              | 16, hs => exact fun e => absurd e (by rw [doneC_eq]; decide)
              | 17, hs => exact absurd hs.1 (by rw [h0]; decide)
              | 18, hs => exact hs
              | 19, hs => trivial
              | _ + 20, _ => trivial
            | 18, hm, _, _, _, _, _, _ => exact absurd hm (by decide)
            | 19, _, ho, h0, hf, hg, hfr, hdep =>
              simp only [gTA, gCZ, gCS, gSI] at ho
              subst ho
              obtain ⟨b0, hb0, hC⟩ := hC
              have t0 : ρ (.tmp 61) = .pointer (some ⟨K, 5, none⟩) := hdep 18 61 (by kernel_rfl) (by kernel_rfl)
              have t9 : d_ 17 = true ∧ (d_ 19 = false → SlX 49 linV 3 nb2 K dr wr.heap.size Z (PbL nb2 (⟨lb, ls, ps⟩ : LinC)) w' (ρ (.tmp 60))) := hdep 17 60 (by kernel_rfl) (by kernel_rfl)
              obtain ⟨b1, hP1, hZ⟩ := t9.2 h0
              have hZ2 := hZ
              obtain ⟨qd, qk, e9, -, -, -⟩ := hZ
              rw [e9] at hZ2
              have hF := (hC.swap (b' := b1) h0).store (by decide) t9.1 h0 hZ2
              have c1_ := (hC.box h0).cell (k := 5) rfl
              have f1 := (hC.box h0).frozen 5
              have hln : ∀ b, (Z ++ [b]).length = Z.length + 1 := fun b => List.length_append
              refine ⟨rfl, markUpon_skip (w' := w'.setCell ⟨K, 5, none⟩ (.slice qd (Z ++ [b1]).length qk)) (by simp [go_sem, t0, e9, c1_, f1]) ?_⟩
              refine ⟨⟨b1, fun _ => PBS.out b1 w' _ hP1, hF⟩, fun h => absurd rfl h, ?_⟩
              intro j t hj hs
              match j, hs with
              | 0, hs => exact hs
              | 1, hs => exact hs
              | 2, hs => exact hs
              | 3, hs => exact hs
              | 4, hs => exact hs
              | 5, hs => exact hs
              | 6, hs => exact hs
              | 7, hs => exact hs
              | 8, hs => exact hs
              | 9, hs => exact hs
              | 10, hs => exact hs
              | 11, hs => exact hs
              | 12, hs => exact hs
              | 13, hs => exact hs
              | 14, hs => exact CpS.but hs (But.set _ _ _ _) KNB.out
              | 15, hs => exact BuL.but hs (But.set _ _ _ _) KNB.out
              | 16, hs => exact fun e => absurd ((doneC_ne d_ (by decide)).symm.trans e) (by rw [t9.1]; decide)
              | 17, hs => exact ⟨(doneC_ne d_ (by decide)).trans hs.1, fun e => absurd e (by rw [doneC_eq]; decide)⟩
              | 18, hs => exact hs
              | 19, hs => trivial
              | _ + 20, _ => trivial
            | n + 20, _, ho, _, _, _, _, _ => simp at ho
          · intro U8 V8x hC8 hS
            simp only [puts, put_none]
            simp only [Act.put, List.setIfInBounds_toArray, List.set_cons_zero, List.set_cons_succ]
            clear hS
            obtain ⟨b, hP, hC8⟩ := hC8
            have hP := hP rfl
            obtain ⟨d2, c2, q1, q2, q3, q4⟩ := hC8.fin rfl
            have q1 : BlkA 26 K V8x #[.int .i64 p.mem, .int .i64 p.cnt, .int .i64 p.ins, .int .i64 p.outs, .slice d1 Z1.length c1_, .slice d2 (Z ++ [b]).length c2, .slice none 0 0] := q1
            have bel : But K V2 V8x := ⟨hC8.sta.os.trans HB.out.os, hC8.sta.tape.trans HB.out.tape, hC8.sta.output.trans HB.out.output, Nat.le_trans HB.out.size hC8.sta.size, fun k hk hne => (hC8.sta.block k (Nat.lt_of_lt_of_le hk HB.out.size) hne (fun y hy => by have := (ROW.out.lt y hy).1; have := NB21.out; omega)).trans (HB.out.block k hk hne)⟩
            have HS8 : Hid (∀ x ∈ Z ++ [b], linS nb2 x V8x) := fun x hx => by
              rcases List.mem_append.1 hx with hx | hx
              · have h := HIN.out x hx
                exact CapV.keep h fun y hy => hC8.sta.block y.block (CapV.lt h y hy).2 (by have := (CapV.lt h y hy).1; have := NBK2.out; omega) (fun z hz => ROW.out.ne_row h (by decide) z y hz hy)
              · rw [List.mem_singleton.1 hx]
                have e := hP.1
                unfold linS
                rw [e]
                exact hP.2
            have TK2 : Hid ((Z ++ [b]).map Prod.fst = (LL.take (kx + 1)).map Prod.fst) := by
              show _ = _
              rw [TK.out, List.map_append, List.map_singleton, hP.1]
            have BOX2 := hiddenC q1
            have ROW2 := hiddenC q2
            have HB2 := hiddenC bel
            have hwk : IntKind.i64.wrap ((kx : Int) + 1) = (kx : Int) + 1 := by rw [IntKind.wrap_i64]; omega
            clear q1 q2 q3 q4 bel hC8 hP
            go_wp2
            go_roundg (nL - (kx + 1))
            case measure => omega
            case rel => exact ⟨kx + 1, d2, c2, _, by omega, rfl, by go_num, TK2.out, BOX2.out, ROW2.out, HS8.out, HB2.out⟩
        · have hki : ¬ (kx : Int) < (nL : Int) := by omega
          have EFlin : Hid (Z.map Prod.fst = LL.map Prod.fst) := by show _ = _; rw [HMAP.out, List.take_of_length_le (by rw [HLL.out]; omega)]
          have L1 : Hid (Z1.length = p.parts.length) := by show _ = _; have q := congrArg List.length EFprt.out; rw [HL.out.pe, List.length_map] at q; exact q
          have L2 : Hid (Z.length = p.lines.length) := by show _ = _; have q := congrArg List.length EFlin.out; rw [HL.out.le, List.length_map] at q; exact q
          have ROW1 := hiddenC (ROWprt.out.but HBlin.out APprt.out)
          have HIN1 : Hid (∀ x ∈ Z1, prtS nb1 x wr) := fun x hx => CapV.but (HINprt.out x hx) HBlin.out (fun y hy => by have := (CapV.lt (HINprt.out x hx) y hy).1; have := NBK1.out; omega)
          have HAO := hiddenC (HL.out.oa.below lwlin.out)
          have y6 := BOXlin.out.cell (k := 6) rfl
          simp only [List.getElem_toArray, List.getElem_cons_zero, List.getElem_cons_succ] at y6
          go_upto_region 14 with (at_builtin; refine wpList_appVNil rfl _ _ 24 rfl Try.underlying24 _ 24 Try.infoOpC rfl (by decide) (by decide) opV_len opV_one nb2 rfl aO p.ops nO cO HNO.out rfl HAO.out (by omega) NBR.out ?_; intro d3 c3 w7 hc hb; have OA7 := hiddenC hc; have HB7 := hiddenC hb; have BX7 := hiddenC (BOXlin.out.below hb); clear hc hb; have x6 := BX7.out.cell (k := 6) rfl; have f6 := BX7.out.frozen 6; simp only [List.getElem_toArray, List.getElem_cons_zero, List.getElem_cons_succ] at x6)
          have SB := But.set w7 K 6 (.slice d3 nO c3)
          have BX8 : Hid (BlkA 26 K (w7.setCell ⟨K, 6, none⟩ (.slice d3 nO c3)) #[.int .i64 p.mem, .int .i64 p.cnt, .int .i64 p.ins, .int .i64 p.outs, .slice d1 Z1.length c1_, .slice dr Z.length cr, .slice d3 nO c3]) := BX7.out.set 6 (.slice d3 nO c3)
          have RS8 := hiddenC ((RSlin.out.below HB7.out).but SB (by have := KW.out; omega))
          have B8 : Hid (Below W.heap.size W (w7.setCell ⟨K, 6, none⟩ (.slice d3 nO c3))) := (lwlin.out.trans (HB7.out.mono lwlin.out.size)).trans (SB.below (by have := KW.out; omega) (Nat.le_trans lwlin.out.size HB7.out.size))
          have big : ∀ {x : Addr} {b : Nat}, K + 1 ≤ b → b ≤ x.block → x.block ≠ K := fun h1 h2 => by omega
          have P1 := hiddenC ((ROW1.out.later HB7.out).but SB (fun y hy => big NBK1.out (ROW1.out.lt y hy).1))
          have P2 : Hid (∀ x ∈ Z1, prtS nb1 x (w7.setCell ⟨K, 6, none⟩ (.slice d3 nO c3))) := fun x hx => CapV.but (CapV.later (HIN1.out x hx) HB7.out) SB (fun y hy => big NBK1.out (CapV.lt (HIN1.out x hx) y hy).1)
          have P3 := hiddenC ((ROWlin.out.later HB7.out).but SB (fun y hy => big NBK2.out (ROWlin.out.lt y hy).1))
          have P4 : Hid (∀ x ∈ Z, linS nb2 x (w7.setCell ⟨K, 6, none⟩ (.slice d3 nO c3))) := fun x hx => CapV.but (CapV.later (HINlin.out x hx) HB7.out) SB (fun y hy => big NBK2.out (CapV.lt (HINlin.out x hx) y hy).1)
          have P5 := hiddenC (OA7.out.but SB (fun y hy => big NBK2.out (OA7.out.lt y hy).1))
          generalize w7.setCell ⟨K, 6, none⟩ (.slice d3 nO c3) = w8 at *
          clear x6 f6 y6 SB z0 z1 z2 z3 z4 z5 z6
          have y0 := BX8.out.cell (k := 0) rfl
          have y1 := BX8.out.cell (k := 1) rfl
          have y2 := BX8.out.cell (k := 2) rfl
          have y3 := BX8.out.cell (k := 3) rfl
          have y4 := BX8.out.cell (k := 4) rfl
          have y5 := BX8.out.cell (k := 5) rfl
          have y6 := BX8.out.cell (k := 6) rfl
          simp only [List.getElem_toArray, List.getElem_cons_zero, List.getElem_cons_succ] at y0 y1 y2 y3 y4 y5 y6
          have H1 := hiddenC (show W.heap.size ≤ nb1 from by have := KW.out; have := NBK1.out; omega)
          have H2 := hiddenC (show W.heap.size ≤ nb2 from by have := KW.out; have := NBK2.out; omega)
          go_wp2_with (refine wpList_storeW _ rfl 26 (.tmp 2) (.tmp 68) rfl rfl (W.heap.size + 1) 26 _ _ rfl rfl RS8.out Try.sizPg rfl rfl ?_; intro w9 hN hU; have N9 := hiddenC hN; have U9 := hiddenC hU; clear hN hU; have x0 := N9.out.cell (k := 0) rfl; have x1 := N9.out.cell (k := 1) rfl; have x2 := N9.out.cell (k := 2) rfl; have x3 := N9.out.cell (k := 3) rfl; have x4 := N9.out.cell (k := 4) rfl; have x5 := N9.out.cell (k := 5) rfl; have x6 := N9.out.cell (k := 6) rfl; simp only [List.getElem_toArray, List.getElem_cons_zero, List.getElem_cons_succ] at x0 x1 x2 x3 x4 x5 x6)
          refine bodyPost_ret (v := .agg #[.int .i64 p.mem, .int .i64 p.cnt, .int .i64 p.ins, .int .i64 p.outs, .slice d1 Z1.length c1_, .slice dr Z.length cr, .slice d3 nO c3]) (by simp [results, Try.results7, go_sem, x0, x1, x2, x3, x4, x5, x6]) rfl ?_
          rw [← HPE.out]
          have big2 : ∀ {x : Addr} {b : Nat}, K + 1 ≤ b → b ≤ x.block → x.block ≠ W.heap.size + 1 := fun h1 h2 => by have := KW.out; omega
          refine ⟨d1, c1_, dr, cr, d3, c3, Z1, Z, by (unfold prgV; rw [← L1.out, ← L2.out, HNO.out]; try rfl), ⟨EFprt.out.trans HL.out.pe, ?_, ?_, EFlin.out.trans HL.out.le, ?_, ?_, ?_⟩, ?_⟩
          · exact (P1.out.but U9.out (fun y hy => big2 NBK1.out (P1.out.lt y hy).1)).mono H1.out
          · exact fun x hx => CapV.mono (CapV.but (P2.out x hx) U9.out (fun y hy => big2 NBK1.out (CapV.lt (P2.out x hx) y hy).1)) H1.out
          · exact (P3.out.but U9.out (fun y hy => big2 NBK2.out (P3.out.lt y hy).1)).mono H2.out
          · exact fun x hx => CapV.mono (CapV.but (P4.out x hx) U9.out (fun y hy => big2 NBK2.out (CapV.lt (P4.out x hx) y hy).1)) H2.out
          · exact (P5.out.but U9.out (fun y hy => big2 NBK2.out (P5.out.lt y hy).1)).mono H2.out
          · exact B8.out.trans (U9.out.below (by omega) B8.out.size)
set_option maxRecDepth 100000 in
set_option maxHeartbeats 8000000 in
theorem codeChecks_walk (p : PrgC) (aP : Option Addr) (cP : Nat) (aL : Option Addr) (cL : Nat) (aO : Option Addr) (cO : Nat) (LP : List (PrtC × (Option Addr × Nat))) (LL : List (LinC × (Option Addr × Nat))) (W : World) (hL : PrgL W p aP aL aO LP LL) (hF : FitP p) (hA : ArgG20 W p LP LL) :
    Calls Try.prog 3 #[prgV p aP cP aL cL aO cO] W fun e w' => e = .returned (.bool true) ∧ Below W.heap.size W w' := by
  obtain ⟨PE, hPE⟩ : ∃ Q : Ending → World → Prop, (fun e w' => e = .returned (.bool true) ∧ Below W.heap.size W w') = Q := ⟨_, rfl⟩
  rw [hPE]
  have HPE := hiddenC hPE
  have AW := hiddenC awake20
  have HL := hiddenC hL
  have hps : ∀ q ∈ p.parts, q.ps.length ≤ 4611686018427387904 := fun q hq => by
    rw [← hL.pe] at hq
    obtain ⟨x, hx, rfl⟩ := List.mem_map.1 hq
    have := (hA.pp x hx).reach
    omega
  have hls : ∀ q ∈ p.lines, q.start.length ≤ 4611686018427387904 := fun q hq => by
    rw [← hL.le] at hq
    obtain ⟨x, hx, rfl⟩ := List.mem_map.1 hq
    have := (hA.lp x hx).reach
    omega
  have hnp := hA.np
  have hnl := hA.nl
  have hno := hA.no
  have PR : Hid (∀ U, Below W.heap.size W U → Calls Try.prog 7 #[prgV p aP cP aL cL aO cO] U fun e w' => ∃ b1 d1 b2 d2 b3 d3 MP ML, e = .returned (prgV p b1 d1 b2 d2 b3 d3) ∧ PrgO U.heap.size w' p b1 d1 b2 d2 b3 d3 MP ML ∧ Below U.heap.size U w') := fun U hb => rprogram_any p aP cP aL cL aO cO LP LL U (hL.below hb) (hA.below hb)
  have CC : Hid (∀ U b1 d1 b2 d2 b3 d3 MP ML, PrgL U p b1 b2 b3 MP ML → Calls Try.prog 8 #[prgV p b1 d1 b2 d2 b3 d3] U fun e w' => e = .returned (.int .i64 (stepC codeS p).2) ∧ Below U.heap.size U w') := fun U b1 d1 b2 d2 b3 d3 MP ML h => checkC_any p b1 d1 b2 d2 b3 d3 MP ML U h hF
  have RC : Hid (∀ U, Below W.heap.size W U → Calls Try.prog 9 #[prgV p aP cP aL cL aO cO] U fun e w' => e = .returned (.int .i64 (stepC codeS p).2) ∧ Below U.heap.size U w') := fun U hb => rcheck20_any p aP cP aL cL aO cO LP LL U (hL.below hb) hF
  have SP : Hid (∀ U b1 d1 b2 d2 b3 d3 MP ML, Below W.heap.size W U → PrgL U p b1 b2 b3 MP ML → Calls Try.prog 10 #[prgV p b1 d1 b2 d2 b3 d3, prgV p aP cP aL cL aO cO] U fun e w' => e = .returned (.bool true) ∧ Below U.heap.size U w') := fun U b1 d1 b2 d2 b3 d3 MP ML hb h => sameProg_wide p b1 d1 b2 d2 b3 d3 aP cP aL cL aO cO MP LP ML LL U h (hL.below hb) (by omega) (by omega) (by omega) hps hls
  clear hps hls hnp hnl hno
  unfold prgV at PR CC RC SP ⊢
  generalize p.parts.length = nP at *
  generalize p.lines.length = nL at *
  generalize p.ops.length = nO at *
  have B0 := hiddenC ((Below.refl W.heap.size W).alloc (Nat.le_refl _) (.cells #[.int .i64 p.mem, .int .i64 p.cnt, .int .i64 p.ins, .int .i64 p.outs, .slice aP nP cP, .slice aL nL cL, .slice aO nO cO] 26))
  have G0 := hiddenC (blkA_new 26 W #[.int .i64 p.mem, .int .i64 p.cnt, .int .i64 p.ins, .int .i64 p.outs, .slice aP nP cP, .slice aL nL cL, .slice aO nO cO])
  generalize (stepC codeS p).2 = s2 at *
  clear hPE hL hF hA
  have q2 : (s2 == s2) = true := by simp
  go_enter Try.func3, Try.ntmps3
  go_upto_region 1 with fail
  generalize W.alloc (.cells #[.int .i64 p.mem, .int .i64 p.cnt, .int .i64 p.ins, .int .i64 p.outs, .slice aP nP cP, .slice aL nL cL, .slice aO nO cO] 26) = W1 at *
  have z0 := G0.out.cell (k := 0) rfl
  have z1 := G0.out.cell (k := 1) rfl
  have z2 := G0.out.cell (k := 2) rfl
  have z3 := G0.out.cell (k := 3) rfl
  have z4 := G0.out.cell (k := 4) rfl
  have z5 := G0.out.cell (k := 5) rfl
  have z6 := G0.out.cell (k := 6) rfl
  simp only [List.getElem_toArray, List.getElem_cons_zero, List.getElem_cons_succ] at z0 z1 z2 z3 z4 z5 z6
  go_upto_region 2 with (go_at_call 7; (with_reducible refine (PR.out _ B0.out).mono ?_); rintro e w2 ⟨b1, d1, b2, d2, b3, d3, MP, ML, rfl, h1, h2⟩; have b3_ := (Below.refl w2.heap.size w2).alloc (Nat.le_refl _) (.cells #[.int .i64 p.mem, .int .i64 p.cnt, .int .i64 p.ins, .int .i64 p.outs, .slice b1 nP d1, .slice b2 nL d2, .slice b3 nO d3] 26); have O2 := hiddenC (h1.lies.below b3_); have B2 := hiddenC ((B0.out.trans (h2.mono B0.out.size)).trans (b3_.mono (Nat.le_trans B0.out.size h2.size))); have G2 := hiddenC ((G0.out.below h2).below b3_); have X2 := hiddenC (blkA_new 26 w2 #[.int .i64 p.mem, .int .i64 p.cnt, .int .i64 p.ins, .int .i64 p.outs, .slice b1 nP d1, .slice b2 nL d2, .slice b3 nO d3]); clear h1 h2 b3_)
  clear z0 z1 z2 z3 z4 z5 z6
  generalize w2.alloc (.cells #[.int .i64 p.mem, .int .i64 p.cnt, .int .i64 p.ins, .int .i64 p.outs, .slice b1 nP d1, .slice b2 nL d2, .slice b3 nO d3] 26) = W2 at *
  obtain ⟨xb, hxb⟩ : ∃ q, w2.heap.size = q := ⟨_, rfl⟩
  rw [hxb] at X2 ⊢
  clear hxb
  have z0 := G2.out.cell (k := 0) rfl
  have z1 := G2.out.cell (k := 1) rfl
  have z2 := G2.out.cell (k := 2) rfl
  have z3 := G2.out.cell (k := 3) rfl
  have z4 := G2.out.cell (k := 4) rfl
  have z5 := G2.out.cell (k := 5) rfl
  have z6 := G2.out.cell (k := 6) rfl
  simp only [List.getElem_toArray, List.getElem_cons_zero, List.getElem_cons_succ] at z0 z1 z2 z3 z4 z5 z6
  have x0 := X2.out.cell (k := 0) rfl
  have x1 := X2.out.cell (k := 1) rfl
  have x2 := X2.out.cell (k := 2) rfl
  have x3 := X2.out.cell (k := 3) rfl
  have x4 := X2.out.cell (k := 4) rfl
  have x5 := X2.out.cell (k := 5) rfl
  have x6 := X2.out.cell (k := 6) rfl
  simp only [List.getElem_toArray, List.getElem_cons_zero, List.getElem_cons_succ] at x0 x1 x2 x3 x4 x5 x6
  go_upto_region 3 with (go_at_call 8; (with_reducible refine (CC.out _ _ _ _ _ _ _ _ _ O2.out).mono ?_); rintro e w3 ⟨rfl, h3⟩; have B3 := hiddenC (B2.out.trans (h3.mono B2.out.size)); have O3 := hiddenC (O2.out.below h3); have G3 := hiddenC (G2.out.below h3); have X3 := hiddenC (X2.out.below h3); clear h3)
  clear z0 z1 z2 z3 z4 z5 z6 x0 x1 x2 x3 x4 x5 x6
  have z0 := G3.out.cell (k := 0) rfl
  have z1 := G3.out.cell (k := 1) rfl
  have z2 := G3.out.cell (k := 2) rfl
  have z3 := G3.out.cell (k := 3) rfl
  have z4 := G3.out.cell (k := 4) rfl
  have z5 := G3.out.cell (k := 5) rfl
  have z6 := G3.out.cell (k := 6) rfl
  simp only [List.getElem_toArray, List.getElem_cons_zero, List.getElem_cons_succ] at z0 z1 z2 z3 z4 z5 z6
  go_wp2_with (first
    | (go_at_call 9; (with_reducible refine (RC.out _ B3.out).mono ?_); rintro e w4 ⟨rfl, h4⟩; have B4 := hiddenC (B3.out.trans (h4.mono B3.out.size)); have O4 := hiddenC (O3.out.below h4); have G4 := hiddenC (G3.out.below h4); have X4 := hiddenC (X3.out.below h4); clear h4 z0 z1 z2 z3 z4 z5 z6; have z0 := G4.out.cell (k := 0) rfl; have z1 := G4.out.cell (k := 1) rfl; have z2 := G4.out.cell (k := 2) rfl; have z3 := G4.out.cell (k := 3) rfl; have z4 := G4.out.cell (k := 4) rfl; have z5 := G4.out.cell (k := 5) rfl; have z6 := G4.out.cell (k := 6) rfl; simp only [List.getElem_toArray, List.getElem_cons_zero, List.getElem_cons_succ] at z0 z1 z2 z3 z4 z5 z6; have x0 := X4.out.cell (k := 0) rfl; have x1 := X4.out.cell (k := 1) rfl; have x2 := X4.out.cell (k := 2) rfl; have x3 := X4.out.cell (k := 3) rfl; have x4 := X4.out.cell (k := 4) rfl; have x5 := X4.out.cell (k := 5) rfl; have x6 := X4.out.cell (k := 6) rfl; simp only [List.getElem_toArray, List.getElem_cons_zero, List.getElem_cons_succ] at x0 x1 x2 x3 x4 x5 x6)
    | (go_at_call 10; (with_reducible refine (SP.out _ _ _ _ _ _ _ _ _ B4.out O4.out).mono ?_); rintro e w5 ⟨rfl, h5⟩; have B5 := hiddenC (B4.out.trans (h5.mono B4.out.size)); clear h5)
    | (go_at_call 11; (with_reducible refine (AW.out _).mono ?_); rintro e w6 ⟨rfl, h6⟩; have B6 := hiddenC (B5.out.trans (h6.mono B5.out.size)); clear h6))
  rw [← HPE.out]
  exact ⟨by first | rfl | simp, B6.out⟩
end Go.Proofs.Ytdjplmlfcolklaa

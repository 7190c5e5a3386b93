/- Texts of one chain, laid one behind the other. -/
import Derived.Test.YtdjplmlfcolklaaPartCodeEncodes24
import Derived.Test.YtdjplmlfcolklaaPartCodeEncodes6
import Derived.Deep.SlicePairs
import Derived.SizedLaws
import Derived.Test.YtdjplmlfcolklaaPartCodeEncodes26
namespace Go.Proofs.Ytdjplmlfcolklaa
open Go.ChangeShapes Go.WideShapes Go.ChangeAt Go.RowKit
theorem Try.cellsYP : Try.prog.cellsOf 45 = 2 := by kernel_rfl
theorem Try.cellsYL : Try.prog.cellsOf 49 = 3 := by kernel_rfl
theorem Try.cellsYR : Try.prog.cellsOf 47 = 2 := by kernel_rfl
theorem Try.cellsYO : Try.prog.cellsOf 53 = 3 := by kernel_rfl
theorem Try.cellsYG : Try.prog.cellsOf 26 = 7 := by kernel_rfl
theorem Try.cellsSP : Try.prog.cellsOf 22 = 1 := by kernel_rfl
theorem Try.cellsSL : Try.prog.cellsOf 23 = 1 := by kernel_rfl
theorem Try.cellsSO : Try.prog.cellsOf 24 = 1 := by kernel_rfl
theorem Try.cellsSI : Try.prog.cellsOf 43 = 1 := by kernel_rfl
theorem Try.cellsTG : Try.prog.cellsOf 42 = 1 := by kernel_rfl
theorem Try.cellsTK : Try.prog.cellsOf 51 = 1 := by kernel_rfl
theorem Try.cells3G : Try.prog.cellsOf 3 = 1 := by kernel_rfl
theorem Try.bytesYP : Try.prog.bytesOf 45 = 32 := by kernel_rfl
theorem Try.bytesYL : Try.prog.bytesOf 49 = 40 := by kernel_rfl
theorem Try.bytesYO : Try.prog.bytesOf 53 = 24 := by kernel_rfl
theorem Try.bytes3G : Try.prog.bytesOf 3 = 8 := by kernel_rfl
theorem chooseG {α : Type} {n : Nat} {p : Nat → α → Prop} (d : α) (h : ∀ i, i < n → ∃ a, p i a) : ∃ f : Nat → α, ∀ i, i < n → p i (f i) :=
  ⟨fun i => if hi : i < n then (h i hi).choose else d, fun i hi => by simp only [hi, dif_pos]; exact (h i hi).choose_spec⟩
theorem off_noneG {W : World} {x : Addr} {v : Value} (h : W.cell? (x.add 0) = some v) : x.spot = none := by
  obtain ⟨b, off, sp⟩ := x
  cases sp with
  | none => rfl
  | some s => simp [World.cell?, Addr.add] at h; split at h <;> cases h
section
variable {H : Type} {enc : TypeId × Value → H} {W : World} {base : Nat} {held : Bool}
theorem wAll_memG {P : Program} {e : TypeId} {q : Nat → Bool} : ∀ {l : List (DataW H)} {d : DataW H}, d ∈ l → (DataW.weightsAll P e l).all q = true → (d.weights P e).all q = true
  | [], _, h, _ => by simp at h
  | d0 :: l, d, h, hw => by
    simp only [DataW.weightsAll, List.all_append, Bool.and_eq_true] at hw
    rcases List.mem_cons.1 h with rfl | h
    · exact hw.1
    · exact wAll_memG h hw.2
theorem numsG_open {n : Nat} {v : Value} {y : DataW H × List MemPlace} (h : DataW.trod enc Try.prog W base (fun _ => true) held n 43 [v] = some y) (hw : (y.1.weights Try.prog 43).all (· ≤ reachBytes) = true) :
    ∃ (ns : List Int) (x : Option Addr) (c : Nat), v = .slice x ns.length c ∧ Arg W x ns.length c ns := by
  rcases open_ints Try.underlying43 Try.underlying3 Try.cells3G h with ⟨h1, -⟩ | ⟨a, len, cap, zs, h1, -, hl, -, hz, hx, hc, hb⟩
  · simp only [List.cons.injEq, and_true] at h1
    subst h1
    exact ⟨[], none, 0, rfl, arg_nil⟩
  · simp only [List.cons.injEq, and_true] at h1
    subst h1
    simp only [if_true] at hz
    have hl2 : (zs.take len).length = len := by rw [List.length_take]; omega
    have hr : len * 8 ≤ 140737488351232 := by
      rw [hx] at hw
      simp only [DataW.weights, Try.underlying43, List.all_cons, Bool.and_eq_true, decide_eq_true_eq, Try.bytes3G] at hw
      have := hw.1
      simp only [reachBytes, lits, List.length_map, List.length_take, List.length_drop] at this
      omega
    refine ⟨zs.take len, some a, cap, by rw [hl2], ?_⟩
    rw [hl2]
    exact arg_mk hl hz hc hb hr
theorem sliceG_open {α : Type} (S T : TypeId) (c bt : Nat) (f : α → List Value) (hfl : ∀ x, (f x).length = c) (d0 : α) (hS : Try.prog.underlying S = some (.slice T)) (hc0 : 0 < c) (hc : Try.prog.cellsOf T = c) (hby : Try.prog.bytesOf T = bt) (P : α → Prop)
    (hel : ∀ {n : Nat} {cs : List Value} {y : DataW H × List MemPlace}, DataW.trod enc Try.prog W base (fun _ => true) held n T cs = some y → (y.1.weights Try.prog T).all (· ≤ reachBytes) = true → ∃ p, cs = f p ∧ P p)
    {n : Nat} {v : Value} {y : DataW H × List MemPlace} (h : DataW.trod enc Try.prog W base (fun _ => true) held n S [v] = some y) (hw : (y.1.weights Try.prog S).all (· ≤ reachBytes) = true) :
    ∃ (a : Option Addr) (cap : Nat) (L : List α), v = .slice a L.length cap ∧ (a = none → cap = 0) ∧ L.length * bt ≤ 140737488351232 ∧ (∀ p ∈ L, P p) ∧ (L = [] ∨ ∃ b off, a = some ⟨b, off, none⟩ ∧ ∀ k (hk : k < L.length), ∀ j u, (f L[k])[j]? = some u → W.cell? ⟨b, off + k * c + j, none⟩ = some u) := by
  rcases Deep.open_slice hS h with ⟨h1, -⟩ | ⟨x, len, cap, m, n, D, Pl, h1, -, hl, -, hm, hd, hx⟩
  · simp only [List.cons.injEq, and_true] at h1
    subst h1
    exact ⟨none, 0, [], rfl, fun _ => rfl, by simp, fun p hp => (by cases hp), .inl rfl⟩
  · simp only [List.cons.injEq, and_true] at h1
    subst h1
    simp only [if_true] at hm
    rw [hd] at hw
    simp only [DataW.weights, hS, List.all_cons, List.all_append, Bool.and_eq_true, decide_eq_true_eq, hby] at hw
    obtain ⟨wr, we, -⟩ := hw
    simp only [reachBytes, List.length_map, List.length_range] at wr
    have each : ∀ i, i < len → ∃ p : α, W.cells? base (x.add (i * c)) c = some (f p) ∧ P p := by
      intro i hi
      obtain ⟨cs', h1, h2⟩ := hx i (by omega)
      rw [hc] at h1
      obtain ⟨p, rfl, hp⟩ := hel h2 (wAll_memG (List.mem_map.2 ⟨i, List.mem_range.2 hi, rfl⟩) we)
      exact ⟨p, h1, hp⟩
    obtain ⟨q, hq⟩ := chooseG d0 each
    have hlen : ((List.range len).map q).length = len := by simp
    refine ⟨some x, cap, (List.range len).map q, by rw [hlen], (fun e => by cases e), ?_, fun p hp => ?_, ?_⟩
    · rw [hlen]
      have h2 : len * bt ≤ m * bt := Nat.mul_le_mul_right _ (by omega)
      have h3 : len * bt ≤ (len + (m - len)) * bt := Nat.mul_le_mul_right _ (Nat.le_add_right _ _)
      omega
    · obtain ⟨i, hi, rfl⟩ := List.mem_map.1 hp
      exact (hq i (List.mem_range.1 hi)).2
    · by_cases h0 : 0 < len
      · right
        have cell : ∀ i, i < len → ∀ j u, (f (q i))[j]? = some u → W.cell? ((x.add (i * c)).add j) = some u := fun i hi j u hu => by
          obtain ⟨_, hlen, hcc⟩ := World.cells?_some (hq i hi).1
          have hj : j < c := by
            have := (List.getElem?_eq_some_iff.1 hu).1
            rw [hfl] at this
            exact this
          rw [hcc j hj, hu]
        obtain ⟨u0, hu0⟩ : ∃ u, (f (q 0))[0]? = some u := ⟨_, List.getElem?_eq_getElem (by rw [hfl]; exact hc0)⟩
        have hs := off_noneG (W := W) (x := x.add (0 * c)) (cell 0 h0 0 u0 hu0)
        obtain ⟨b, off, sp⟩ := x
        rw [Nat.zero_mul] at hs
        have hs' : sp = none := by simpa [Addr.add] using hs
        subst hs'
        refine ⟨b, off, rfl, fun k hk j u hu => ?_⟩
        have hk' : k < len := by simpa using hk
        rw [List.getElem_map, List.getElem_range] at hu
        have cc := cell k hk' j u hu
        rw [Addr.add_lit, Addr.add_lit] at cc
        exact cc
      · left
        have e : len = 0 := by omega
        subst e
        rfl
def GoodP (W : World) (p : PrtC × (Option Addr × Nat)) : Prop := (p.1.tag < 256 ∧ ∀ z ∈ p.1.ps, IntOk z) ∧ At W p.2.1 p.1.ps
def GoodL (W : World) (p : LinC × (Option Addr × Nat)) : Prop := (∀ z ∈ p.1.start, IntOk z) ∧ p.1.base ≤ 9223372036854775807 ∧ At W p.2.1 p.1.start
theorem inR_ok {zs : List Int} (h : InR zs) : ∀ z ∈ zs, IntOk z := fun z hz => by
  obtain ⟨k, hk, e⟩ := List.mem_iff_getElem.1 hz
  have q := h k
  unfold nth at q
  rw [List.getD_eq_getElem?_getD, List.getElem?_eq_getElem hk, Option.getD_some, e] at q
  exact q
set_option maxRecDepth 100000 in
theorem partY_open {n : Nat} {cs : List Value} {y : DataW H × List MemPlace} (h : DataW.trod enc Try.prog W base (fun _ => true) held n 45 cs = some y) (hw : (y.1.weights Try.prog 45).all (· ≤ reachBytes) = true) :
    ∃ p : PrtC × (Option Addr × Nat), cs = prtV p ∧ GoodP W p := by
  obtain ⟨xs, k, hk, hxy, hcl, hxl, hf⟩ := DataW.trod_struct Try.underlying45 h
  rw [Try.cellsYP] at hcl
  match xs, hxl, cs, hcl with
  | [y0, y1], _, [v0, v1], _ =>
    have g0 := hf 0 _ rfl
    have g1 := hf 1 _ rfl
    simp [Try.cellsTG, Try.cellsSI] at g0 g1
    have hw1 : (y1.1.weights Try.prog 43).all (· ≤ reachBytes) = true := by
      rw [hxy] at hw
      simp only [DataW.weights, Try.underlying45] at hw
      rw [List.all_eq_true] at hw ⊢
      exact fun m hm => hw m (DataW.weights_mem_each (j := 1) (t := 43) (d := y1.1) rfl rfl m hm)
    obtain ⟨z0, q0, -, b0⟩ := DataW.trod_int Try.underlying42 g0
    obtain ⟨ns, x, c, q1, hA⟩ := numsG_open g1 hw1
    simp only [List.cons.injEq, and_true] at q0
    subst q0 q1
    have bd := bounds_u8 b0
    obtain ⟨tg, rfl⟩ : ∃ t : Nat, z0 = (t : Int) := ⟨z0.toNat, by omega⟩
    exact ⟨(⟨tg, ns⟩, (x, c)), rfl, ⟨by show tg < 256; omega, inR_ok hA.fits⟩, hA.lies⟩
set_option maxRecDepth 100000 in
theorem regY_open {n : Nat} {cs : List Value} {y : DataW H × List MemPlace} (h : DataW.trod enc Try.prog W base (fun _ => true) held n 47 cs = some y) :
    ∃ b s : Int, cs = [.int .i64 b, .int .i64 s] ∧ b ≤ 9223372036854775807 := by
  obtain ⟨xs, k, hk, hxy, hcl, hxl, hf⟩ := DataW.trod_struct Try.underlying47 h
  rw [Try.cellsYR] at hcl
  match xs, hxl, cs, hcl with
  | [y0, y1], _, [v0, v1], _ =>
    have g0 := hf 0 _ rfl
    have g1 := hf 1 _ rfl
    simp [Try.cells3G] at g0 g1
    obtain ⟨z0, q0, -, b0⟩ := DataW.trod_int Try.underlying3 g0
    obtain ⟨z1, q1, -, -⟩ := DataW.trod_int Try.underlying3 g1
    simp only [List.cons.injEq, and_true] at q0 q1
    subst q0 q1
    exact ⟨z0, z1, rfl, (bounds_i64 b0).2⟩
set_option maxRecDepth 100000 in
theorem lineY_open {n : Nat} {cs : List Value} {y : DataW H × List MemPlace} (h : DataW.trod enc Try.prog W base (fun _ => true) held n 49 cs = some y) (hw : (y.1.weights Try.prog 49).all (· ≤ reachBytes) = true) :
    ∃ p : LinC × (Option Addr × Nat), cs = linV p ∧ GoodL W p := by
  obtain ⟨xs, k, hk, hxy, hcl, hxl, hf⟩ := DataW.trod_struct Try.underlying49 h
  rw [Try.cellsYL] at hcl
  match xs, hxl, cs, hcl with
  | [y0, y1], _, [v0, v1, v2], _ =>
    have g0 := hf 0 _ rfl
    have g1 := hf 1 _ rfl
    simp [Try.cellsYR, Try.cellsSI] at g0 g1
    have hw1 : (y1.1.weights Try.prog 43).all (· ≤ reachBytes) = true := by
      rw [hxy] at hw
      simp only [DataW.weights, Try.underlying49] at hw
      rw [List.all_eq_true] at hw ⊢
      exact fun m hm => hw m (DataW.weights_mem_each (j := 1) (t := 43) (d := y1.1) rfl rfl m hm)
    obtain ⟨b, s, q0, hb⟩ := regY_open g0
    obtain ⟨ns, x, c, q1, hA⟩ := numsG_open g1 hw1
    simp only [List.cons.injEq, and_true] at q0
    obtain ⟨rfl, rfl⟩ := q0
    subst q1
    exact ⟨(⟨b, s, ns⟩, (x, c)), rfl, inR_ok hA.fits, hb, hA.lies⟩
set_option maxRecDepth 100000 in
theorem opY_open {n : Nat} {cs : List Value} {y : DataW H × List MemPlace} (h : DataW.trod enc Try.prog W base (fun _ => true) held n 53 cs = some y) :
    ∃ p : OpC, cs = opV p ∧ True := by
  obtain ⟨xs, k, hk, hxy, hcl, hxl, hf⟩ := DataW.trod_struct Try.underlying53 h
  rw [Try.cellsYO] at hcl
  match xs, hxl, cs, hcl with
  | [y0, y1, y2], _, [v0, v1, v2], _ =>
    have g0 := hf 0 _ rfl
    have g1 := hf 1 _ rfl
    have g2 := hf 2 _ rfl
    simp [Try.cellsTK, Try.cells3G] at g0 g1 g2
    obtain ⟨z0, q0, -, b0⟩ := DataW.trod_int Try.underlying51 g0
    obtain ⟨z1, q1, -, -⟩ := DataW.trod_int Try.underlying3 g1
    obtain ⟨z2, q2, -, -⟩ := DataW.trod_int Try.underlying3 g2
    simp only [List.cons.injEq, and_true] at q0 q1 q2
    subst q0 q1 q2
    have bd := bounds_u8 b0
    obtain ⟨tg, rfl⟩ : ∃ t : Nat, z0 = (t : Int) := ⟨z0.toNat, by omega⟩
    exact ⟨⟨tg, z1, z2⟩, rfl, trivial⟩
theorem atV_of {α : Type} {f : α → List Value} {c : Nat} {a : Option Addr} {L : List α} (h : L = [] ∨ ∃ b off, a = some ⟨b, off, none⟩ ∧ ∀ k (hk : k < L.length), ∀ j u, (f L[k])[j]? = some u → W.cell? ⟨b, off + k * c + j, none⟩ = some u) : AtV f c W a L := by
  rcases h with h | ⟨b, off, e, h⟩
  · exact .inl h
  · refine .inr ⟨b, off, e, fun k x hx j u hu => ?_⟩
    obtain ⟨hk, rfl⟩ := List.getElem?_eq_some_iff.1 hx
    exact h k hk j u hu
set_option maxRecDepth 100000 in
theorem program_open {r : Reach} {b0 : Nat} {v : Value} {d : DataW H} {p : List MemPlace} (hv : Value.okWide Try.prog W r b0 26 v) (h : DataW.Trod enc Try.prog W base (fun _ => true) held 26 v d p) (hw : (d.weights Try.prog 26).all (· ≤ reachBytes) = true) :
    ∃ (g : PrgC) (a1 : Option Addr) (c1 : Nat) (a2 : Option Addr) (c2 : Nat) (a3 : Option Addr) (c3 : Nat) (LP : List (PrtC × (Option Addr × Nat))) (LL : List (LinC × (Option Addr × Nat))), v = prgV g a1 c1 a2 c2 a3 c3 ∧ PrgL W g a1 a2 a3 LP LL ∧ FitP g := by
  obtain ⟨cs, rfl, hsz⟩ := okWide_struct Try.underlying26 hv
  rw [Try.cellsYG] at hsz
  obtain ⟨fuel, hf⟩ := h
  obtain ⟨xs, k, hk, hxy, hcl, hxl, hf⟩ := DataW.trod_struct Try.underlying26 hf
  obtain ⟨l⟩ := cs
  match xs, hxl, l, hsz with
  | [y0, y1, y2, y3, y4, y5, y6], _, [v0, v1, v2, v3, v4, v5, v6], _ =>
    have g0 := hf 0 _ rfl
    have g1 := hf 1 _ rfl
    have g2 := hf 2 _ rfl
    have g3 := hf 3 _ rfl
    have g4 := hf 4 _ rfl
    have g5 := hf 5 _ rfl
    have g6 := hf 6 _ rfl
    simp [Value.cells, Try.cells3G, Try.cellsSP, Try.cellsSL, Try.cellsSO] at g0 g1 g2 g3 g4 g5 g6
    have hd := congrArg Prod.fst hxy
    simp only at hd
    rw [hd] at hw
    simp only [DataW.weights, Try.underlying26] at hw
    rw [List.all_eq_true] at hw
    have w4 : (y4.1.weights Try.prog 22).all (· ≤ reachBytes) = true := by rw [List.all_eq_true]; exact fun m hm => hw m (DataW.weights_mem_each (j := 4) (t := 22) (d := y4.1) rfl rfl m hm)
    have w5 : (y5.1.weights Try.prog 23).all (· ≤ reachBytes) = true := by rw [List.all_eq_true]; exact fun m hm => hw m (DataW.weights_mem_each (j := 5) (t := 23) (d := y5.1) rfl rfl m hm)
    have w6 : (y6.1.weights Try.prog 24).all (· ≤ reachBytes) = true := by rw [List.all_eq_true]; exact fun m hm => hw m (DataW.weights_mem_each (j := 6) (t := 24) (d := y6.1) rfl rfl m hm)
    obtain ⟨z0, q0, -, -⟩ := DataW.trod_int Try.underlying3 g0
    obtain ⟨z1, q1, -, -⟩ := DataW.trod_int Try.underlying3 g1
    obtain ⟨z2, q2, -, -⟩ := DataW.trod_int Try.underlying3 g2
    obtain ⟨z3, q3, -, -⟩ := DataW.trod_int Try.underlying3 g3
    simp only [List.cons.injEq, and_true] at q0 q1 q2 q3
    subst q0 q1 q2 q3
    obtain ⟨a1, c1, As, rfl, -, -, p1, r1⟩ := sliceG_open 22 45 2 32 prtV prtV_len (⟨0, []⟩, (none, 0)) Try.underlying22 (by decide) Try.cellsYP Try.bytesYP (GoodP W) (fun h hw => partY_open h hw) g4 w4
    obtain ⟨a2, c2, Es, rfl, -, -, p2, r2⟩ := sliceG_open 23 49 3 40 linV linV_len (⟨0, 0, []⟩, (none, 0)) Try.underlying23 (by decide) Try.cellsYL Try.bytesYL (GoodL W) (fun h hw => lineY_open h hw) g5 w5
    obtain ⟨a3, c3, Os, rfl, -, -, -, r3⟩ := sliceG_open 24 53 3 24 opV opV_len ⟨0, 0, 0⟩ Try.underlying24 (by decide) Try.cellsYO Try.bytesYO (fun _ => True) (fun h _ => opY_open h) g6 w6
    refine ⟨⟨z0, z1, z2, z3, As.map Prod.fst, Es.map Prod.fst, Os⟩, a1, c1, a2, c2, a3, c3, As, Es, by unfold prgV; simp only [List.length_map], ⟨rfl, atV_of r1, fun x hx => (p1 x hx).2, rfl, atV_of r2, fun x hx => (p2 x hx).2.2, atV_of r3⟩, ⟨⟨fun q hq => ?_, fun q hq => ?_⟩, fun q hq => ?_⟩⟩
    · obtain ⟨x, hx, rfl⟩ := List.mem_map.1 hq
      exact (p1 x hx).1
    · obtain ⟨x, hx, rfl⟩ := List.mem_map.1 hq
      exact (p2 x hx).1
    · obtain ⟨x, hx, rfl⟩ := List.mem_map.1 hq
      exact (p2 x hx).2.1
end
set_option maxRecDepth 100000 in
set_option maxHeartbeats 8000000 in
theorem codeEncodes_walk (p : PrgC) (aP : Option Addr) (cP : Nat) (aL : Option Addr) (cL : Nat) (aO : Option Addr) (cO : Nat) (LP : List (PrtC × (Option Addr × Nat))) (LL : List (LinC × (Option Addr × Nat))) (W : World) (hL : PrgL W p aP aL aO LP LL) (hF : FitP p) :
    Calls Try.prog 5 #[prgV p aP cP aL cL aO cO] W fun e w' => e = .returned (.bool true) ∧ Below W.heap.size W w' := by
  obtain ⟨PE, hPE⟩ : ∃ Q : Ending → World → Prop, (fun e w' => e = .returned (.bool true) ∧ Below W.heap.size W w') = Q := ⟨_, rfl⟩
  rw [hPE]
  have HPE := hiddenC hPE
  have AW := hiddenC awake20
  have SD : Hid (∀ U, Below W.heap.size W U → Calls Try.prog 14 #[prgV p aP cP aL cL aO cO] U fun e w' => e = .returned (.tuple #[.string (strC (encT p)), .int .i64 (stepC codeS p).2]) ∧ Below U.heap.size U w') := fun U hb => rencode_any p aP cP aL cL aO cO LP LL U (hL.below hb) hF
  have SC : Hid (∀ U, Below W.heap.size W U → Calls Try.prog 15 #[prgV p aP cP aL cL aO cO] U fun e w' => e = .returned (.tuple #[.string (strC (encT p)), .int .i64 (stepC codeS p).2]) ∧ Below U.heap.size U w') := fun U hb => encode_any p aP cP aL cL aO cO LP LL U (hL.below hb) hF
  unfold prgV at SD SC ⊢
  generalize p.parts.length = nP at *
  generalize p.lines.length = nL at *
  generalize p.ops.length = nO at *
  have B0 := hiddenC ((Below.refl W.heap.size W).alloc (Nat.le_refl _) (.cells #[.int .i64 p.mem, .int .i64 p.cnt, .int .i64 p.ins, .int .i64 p.outs, .slice aP nP cP, .slice aL nL cL, .slice aO nO cO] 26))
  have G0 := hiddenC (blkA_new 26 W #[.int .i64 p.mem, .int .i64 p.cnt, .int .i64 p.ins, .int .i64 p.outs, .slice aP nP cP, .slice aL nL cL, .slice aO nO cO])
  generalize strC (encT p) = s1 at *
  generalize (stepC codeS p).2 = s2 at *
  clear hPE hL hF
  have q2 : (s2 == s2) = true := by simp
  go_enter Try.func5, Try.ntmps5
  go_upto_region 1 with fail
  generalize W.alloc (.cells #[.int .i64 p.mem, .int .i64 p.cnt, .int .i64 p.ins, .int .i64 p.outs, .slice aP nP cP, .slice aL nL cL, .slice aO nO cO] 26) = W1 at *
  have z0 := G0.out.cell (k := 0) rfl
  have z1 := G0.out.cell (k := 1) rfl
  have z2 := G0.out.cell (k := 2) rfl
  have z3 := G0.out.cell (k := 3) rfl
  have z4 := G0.out.cell (k := 4) rfl
  have z5 := G0.out.cell (k := 5) rfl
  have z6 := G0.out.cell (k := 6) rfl
  simp only [List.getElem_toArray, List.getElem_cons_zero, List.getElem_cons_succ] at z0 z1 z2 z3 z4 z5 z6
  go_upto_region 2 with (go_at_call 14; (with_reducible refine (SD.out _ B0.out).mono ?_); rintro e w2 ⟨rfl, h2⟩; have B2 := hiddenC (B0.out.trans (h2.mono B0.out.size)); have G2 := hiddenC (G0.out.below h2); clear h2)
  clear z0 z1 z2 z3 z4 z5 z6
  have z0 := G2.out.cell (k := 0) rfl
  have z1 := G2.out.cell (k := 1) rfl
  have z2 := G2.out.cell (k := 2) rfl
  have z3 := G2.out.cell (k := 3) rfl
  have z4 := G2.out.cell (k := 4) rfl
  have z5 := G2.out.cell (k := 5) rfl
  have z6 := G2.out.cell (k := 6) rfl
  simp only [List.getElem_toArray, List.getElem_cons_zero, List.getElem_cons_succ] at z0 z1 z2 z3 z4 z5 z6
  go_upto_region 3 with (go_at_call 15; (with_reducible refine (SC.out _ B2.out).mono ?_); rintro e w3 ⟨rfl, h3⟩; have B3 := hiddenC (B2.out.trans (h3.mono B2.out.size)); clear h3)
  go_wp2_with (go_at_call 11; (with_reducible refine (AW.out _).mono ?_); rintro e w4 ⟨rfl, h4⟩; have B4 := hiddenC (B3.out.trans (h4.mono B3.out.size)); clear h4)
  rw [← HPE.out]
  exact ⟨by first | rfl | simp, B4.out⟩
end Go.Proofs.Ytdjplmlfcolklaa

/- Texts of one chain, laid one behind the other. -/
import Derived.Test.YtdeeaokfljglkabPartCodeDone24
import Derived.Test.YtdeeaokfljglkabPartCodeDone6
import Derived.Deep.SlicePairs
import Derived.SizedLaws
import Derived.Test.YtdeeaokfljglkabPartCodeDone10
import Derived.Test.YtdeeaokfljglkabPartCodeDone4
namespace Go.Proofs.Ytdeeaokfljglkab
open Go.ChangeShapes Go.WideShapes Go.ChangeAt Go.RowKit
theorem Try.cellsYP : Try.prog.cellsOf 68 = 2 := by kernel_rfl
theorem Try.cellsYL : Try.prog.cellsOf 48 = 3 := by kernel_rfl
theorem Try.cellsYR : Try.prog.cellsOf 46 = 2 := by kernel_rfl
theorem Try.cellsYO : Try.prog.cellsOf 43 = 3 := by kernel_rfl
theorem Try.cellsYG : Try.prog.cellsOf 26 = 7 := by kernel_rfl
theorem Try.cellsSP : Try.prog.cellsOf 22 = 1 := by kernel_rfl
theorem Try.cellsSL : Try.prog.cellsOf 23 = 1 := by kernel_rfl
theorem Try.cellsSO : Try.prog.cellsOf 24 = 1 := by kernel_rfl
theorem Try.cellsSI : Try.prog.cellsOf 40 = 1 := by kernel_rfl
theorem Try.cellsTG : Try.prog.cellsOf 66 = 1 := by kernel_rfl
theorem Try.cellsTK : Try.prog.cellsOf 41 = 1 := by kernel_rfl
theorem Try.cells3G : Try.prog.cellsOf 3 = 1 := by kernel_rfl
theorem Try.bytesYP : Try.prog.bytesOf 68 = 32 := by kernel_rfl
theorem Try.bytesYL : Try.prog.bytesOf 48 = 40 := by kernel_rfl
theorem Try.bytesYO : Try.prog.bytesOf 43 = 24 := by kernel_rfl
theorem Try.bytes3G : Try.prog.bytesOf 3 = 8 := by kernel_rfl
theorem chooseG {α : Type} {n : Nat} {p : Nat → α → Prop} (d : α) (h : ∀ i, i < n → ∃ a, p i a) : ∃ f : Nat → α, ∀ i, i < n → p i (f i) :=
  ⟨fun i => if hi : i < n then (h i hi).choose else d, fun i hi => by simp only [hi, dif_pos]; exact (h i hi).choose_spec⟩
theorem off_noneG {W : World} {x : Addr} {v : Value} (h : W.cell? (x.add 0) = some v) : x.spot = none := by
  obtain ⟨b, off, sp⟩ := x
  cases sp with
  | none => rfl
  | some s => simp [World.cell?, Addr.add] at h; split at h <;> cases h
section
variable {H : Type} {enc : TypeId × Value → H} {W : World} {base : Nat} {held : Bool}
theorem wAll_memG {P : Program} {e : TypeId} {q : Nat → Bool} : ∀ {l : List (DataW H)} {d : DataW H}, d ∈ l → (DataW.weightsAll P e l).all q = true → (d.weights P e).all q = true
  | [], _, h, _ => by simp at h
  | d0 :: l, d, h, hw => by
    simp only [DataW.weightsAll, List.all_append, Bool.and_eq_true] at hw
    rcases List.mem_cons.1 h with rfl | h
    · exact hw.1
    · exact wAll_memG h hw.2
theorem numsG_open {n : Nat} {v : Value} {y : DataW H × List MemPlace} (h : DataW.trod enc Try.prog W base (fun _ => true) held n 40 [v] = some y) (hw : (y.1.weights Try.prog 40).all (· ≤ reachBytes) = true) :
    ∃ (ns : List Int) (x : Option Addr) (c : Nat), v = .slice x ns.length c ∧ Arg W x ns.length c ns := by
  rcases open_ints Try.underlying40 Try.underlying3 Try.cells3G h with ⟨h1, -⟩ | ⟨a, len, cap, zs, h1, -, hl, -, hz, hx, hc, hb⟩
  · simp only [List.cons.injEq, and_true] at h1
    subst h1
    exact ⟨[], none, 0, rfl, arg_nil⟩
  · simp only [List.cons.injEq, and_true] at h1
    subst h1
    simp only [if_true] at hz
    have hl2 : (zs.take len).length = len := by rw [List.length_take]; omega
    have hr : len * 8 ≤ 140737488351232 := by
      rw [hx] at hw
      simp only [DataW.weights, Try.underlying40, List.all_cons, Bool.and_eq_true, decide_eq_true_eq, Try.bytes3G] at hw
      have := hw.1
      simp only [reachBytes, lits, List.length_map, List.length_take, List.length_drop] at this
      omega
    refine ⟨zs.take len, some a, cap, by rw [hl2], ?_⟩
    rw [hl2]
    exact arg_mk hl hz hc hb hr
theorem sliceG_open {α : Type} (S T : TypeId) (c bt : Nat) (f : α → List Value) (hfl : ∀ x, (f x).length = c) (d0 : α) (hS : Try.prog.underlying S = some (.slice T)) (hc0 : 0 < c) (hc : Try.prog.cellsOf T = c) (hby : Try.prog.bytesOf T = bt) (P : α → Prop)
    (hel : ∀ {n : Nat} {cs : List Value} {y : DataW H × List MemPlace}, DataW.trod enc Try.prog W base (fun _ => true) held n T cs = some y → (y.1.weights Try.prog T).all (· ≤ reachBytes) = true → ∃ p, cs = f p ∧ P p)
    {n : Nat} {v : Value} {y : DataW H × List MemPlace} (h : DataW.trod enc Try.prog W base (fun _ => true) held n S [v] = some y) (hw : (y.1.weights Try.prog S).all (· ≤ reachBytes) = true) :
    ∃ (a : Option Addr) (cap : Nat) (L : List α), v = .slice a L.length cap ∧ (a = none → cap = 0) ∧ L.length * bt ≤ 140737488351232 ∧ (∀ p ∈ L, P p) ∧ (L = [] ∨ ∃ b off, a = some ⟨b, off, none⟩ ∧ ∀ k (hk : k < L.length), ∀ j u, (f L[k])[j]? = some u → W.cell? ⟨b, off + k * c + j, none⟩ = some u) := by
  rcases Deep.open_slice hS h with ⟨h1, -⟩ | ⟨x, len, cap, m, n, D, Pl, h1, -, hl, -, hm, hd, hx⟩
  · simp only [List.cons.injEq, and_true] at h1
    subst h1
    exact ⟨none, 0, [], rfl, fun _ => rfl, by simp, fun p hp => (by cases hp), .inl rfl⟩
  · simp only [List.cons.injEq, and_true] at h1
    subst h1
    simp only [if_true] at hm
    rw [hd] at hw
    simp only [DataW.weights, hS, List.all_cons, List.all_append, Bool.and_eq_true, decide_eq_true_eq, hby] at hw
    obtain ⟨wr, we, -⟩ := hw
    simp only [reachBytes, List.length_map, List.length_range] at wr
    have each : ∀ i, i < len → ∃ p : α, W.cells? base (x.add (i * c)) c = some (f p) ∧ P p := by
      intro i hi
      obtain ⟨cs', h1, h2⟩ := hx i (by omega)
      rw [hc] at h1
      obtain ⟨p, rfl, hp⟩ := hel h2 (wAll_memG (List.mem_map.2 ⟨i, List.mem_range.2 hi, rfl⟩) we)
      exact ⟨p, h1, hp⟩
    obtain ⟨q, hq⟩ := chooseG d0 each
    have hlen : ((List.range len).map q).length = len := by simp
    refine ⟨some x, cap, (List.range len).map q, by rw [hlen], (fun e => by cases e), ?_, fun p hp => ?_, ?_⟩
    · rw [hlen]
      have h2 : len * bt ≤ m * bt := Nat.mul_le_mul_right _ (by omega)
      have h3 : len * bt ≤ (len + (m - len)) * bt := Nat.mul_le_mul_right _ (Nat.le_add_right _ _)
      omega
    · obtain ⟨i, hi, rfl⟩ := List.mem_map.1 hp
      exact (hq i (List.mem_range.1 hi)).2
    · by_cases h0 : 0 < len
      · right
        have cell : ∀ i, i < len → ∀ j u, (f (q i))[j]? = some u → W.cell? ((x.add (i * c)).add j) = some u := fun i hi j u hu => by
          obtain ⟨_, hlen, hcc⟩ := World.cells?_some (hq i hi).1
          have hj : j < c := by
            have := (List.getElem?_eq_some_iff.1 hu).1
            rw [hfl] at this
            exact this
          rw [hcc j hj, hu]
        obtain ⟨u0, hu0⟩ : ∃ u, (f (q 0))[0]? = some u := ⟨_, List.getElem?_eq_getElem (by rw [hfl]; exact hc0)⟩
        have hs := off_noneG (W := W) (x := x.add (0 * c)) (cell 0 h0 0 u0 hu0)
        obtain ⟨b, off, sp⟩ := x
        rw [Nat.zero_mul] at hs
        have hs' : sp = none := by simpa [Addr.add] using hs
        subst hs'
        refine ⟨b, off, rfl, fun k hk j u hu => ?_⟩
        have hk' : k < len := by simpa using hk
        rw [List.getElem_map, List.getElem_range] at hu
        have cc := cell k hk' j u hu
        rw [Addr.add_lit, Addr.add_lit] at cc
        exact cc
      · left
        have e : len = 0 := by omega
        subst e
        rfl
def GoodP (W : World) (p : PrtC × (Option Addr × Nat)) : Prop := (p.1.tag < 256 ∧ ∀ z ∈ p.1.ps, IntOk z) ∧ At W p.2.1 p.1.ps
def GoodL (W : World) (p : LinC × (Option Addr × Nat)) : Prop := (∀ z ∈ p.1.start, IntOk z) ∧ p.1.base ≤ 9223372036854775807 ∧ At W p.2.1 p.1.start
theorem inR_ok {zs : List Int} (h : InR zs) : ∀ z ∈ zs, IntOk z := fun z hz => by
  obtain ⟨k, hk, e⟩ := List.mem_iff_getElem.1 hz
  have q := h k
  unfold nth at q
  rw [List.getD_eq_getElem?_getD, List.getElem?_eq_getElem hk, Option.getD_some, e] at q
  exact q
set_option maxRecDepth 100000 in
theorem partY_open {n : Nat} {cs : List Value} {y : DataW H × List MemPlace} (h : DataW.trod enc Try.prog W base (fun _ => true) held n 68 cs = some y) (hw : (y.1.weights Try.prog 68).all (· ≤ reachBytes) = true) :
    ∃ p : PrtC × (Option Addr × Nat), cs = prtV p ∧ GoodP W p := by
  obtain ⟨xs, k, hk, hxy, hcl, hxl, hf⟩ := DataW.trod_struct Try.underlying68 h
  rw [Try.cellsYP] at hcl
  match xs, hxl, cs, hcl with
  | [y0, y1], _, [v0, v1], _ =>
    have g0 := hf 0 _ rfl
    have g1 := hf 1 _ rfl
    simp [Try.cellsTG, Try.cellsSI] at g0 g1
    have hw1 : (y1.1.weights Try.prog 40).all (· ≤ reachBytes) = true := by
      rw [hxy] at hw
      simp only [DataW.weights, Try.underlying68] at hw
      rw [List.all_eq_true] at hw ⊢
      exact fun m hm => hw m (DataW.weights_mem_each (j := 1) (t := 40) (d := y1.1) rfl rfl m hm)
    obtain ⟨z0, q0, -, b0⟩ := DataW.trod_int Try.underlying66 g0
    obtain ⟨ns, x, c, q1, hA⟩ := numsG_open g1 hw1
    simp only [List.cons.injEq, and_true] at q0
    subst q0 q1
    have bd := bounds_u8 b0
    obtain ⟨tg, rfl⟩ : ∃ t : Nat, z0 = (t : Int) := ⟨z0.toNat, by omega⟩
    exact ⟨(⟨tg, ns⟩, (x, c)), rfl, ⟨by show tg < 256; omega, inR_ok hA.fits⟩, hA.lies⟩
set_option maxRecDepth 100000 in
theorem regY_open {n : Nat} {cs : List Value} {y : DataW H × List MemPlace} (h : DataW.trod enc Try.prog W base (fun _ => true) held n 46 cs = some y) :
    ∃ b s : Int, cs = [.int .i64 b, .int .i64 s] ∧ b ≤ 9223372036854775807 := by
  obtain ⟨xs, k, hk, hxy, hcl, hxl, hf⟩ := DataW.trod_struct Try.underlying46 h
  rw [Try.cellsYR] at hcl
  match xs, hxl, cs, hcl with
  | [y0, y1], _, [v0, v1], _ =>
    have g0 := hf 0 _ rfl
    have g1 := hf 1 _ rfl
    simp [Try.cells3G] at g0 g1
    obtain ⟨z0, q0, -, b0⟩ := DataW.trod_int Try.underlying3 g0
    obtain ⟨z1, q1, -, -⟩ := DataW.trod_int Try.underlying3 g1
    simp only [List.cons.injEq, and_true] at q0 q1
    subst q0 q1
    exact ⟨z0, z1, rfl, (bounds_i64 b0).2⟩
set_option maxRecDepth 100000 in
theorem lineY_open {n : Nat} {cs : List Value} {y : DataW H × List MemPlace} (h : DataW.trod enc Try.prog W base (fun _ => true) held n 48 cs = some y) (hw : (y.1.weights Try.prog 48).all (· ≤ reachBytes) = true) :
    ∃ p : LinC × (Option Addr × Nat), cs = linV p ∧ GoodL W p := by
  obtain ⟨xs, k, hk, hxy, hcl, hxl, hf⟩ := DataW.trod_struct Try.underlying48 h
  rw [Try.cellsYL] at hcl
  match xs, hxl, cs, hcl with
  | [y0, y1], _, [v0, v1, v2], _ =>
    have g0 := hf 0 _ rfl
    have g1 := hf 1 _ rfl
    simp [Try.cellsYR, Try.cellsSI] at g0 g1
    have hw1 : (y1.1.weights Try.prog 40).all (· ≤ reachBytes) = true := by
      rw [hxy] at hw
      simp only [DataW.weights, Try.underlying48] at hw
      rw [List.all_eq_true] at hw ⊢
      exact fun m hm => hw m (DataW.weights_mem_each (j := 1) (t := 40) (d := y1.1) rfl rfl m hm)
    obtain ⟨b, s, q0, hb⟩ := regY_open g0
    obtain ⟨ns, x, c, q1, hA⟩ := numsG_open g1 hw1
    simp only [List.cons.injEq, and_true] at q0
    obtain ⟨rfl, rfl⟩ := q0
    subst q1
    exact ⟨(⟨b, s, ns⟩, (x, c)), rfl, inR_ok hA.fits, hb, hA.lies⟩
set_option maxRecDepth 100000 in
theorem opY_open {n : Nat} {cs : List Value} {y : DataW H × List MemPlace} (h : DataW.trod enc Try.prog W base (fun _ => true) held n 43 cs = some y) :
    ∃ p : OpC, cs = opV p ∧ True := by
  obtain ⟨xs, k, hk, hxy, hcl, hxl, hf⟩ := DataW.trod_struct Try.underlying43 h
  rw [Try.cellsYO] at hcl
  match xs, hxl, cs, hcl with
  | [y0, y1, y2], _, [v0, v1, v2], _ =>
    have g0 := hf 0 _ rfl
    have g1 := hf 1 _ rfl
    have g2 := hf 2 _ rfl
    simp [Try.cellsTK, Try.cells3G] at g0 g1 g2
    obtain ⟨z0, q0, -, b0⟩ := DataW.trod_int Try.underlying41 g0
    obtain ⟨z1, q1, -, -⟩ := DataW.trod_int Try.underlying3 g1
    obtain ⟨z2, q2, -, -⟩ := DataW.trod_int Try.underlying3 g2
    simp only [List.cons.injEq, and_true] at q0 q1 q2
    subst q0 q1 q2
    have bd := bounds_u8 b0
    obtain ⟨tg, rfl⟩ : ∃ t : Nat, z0 = (t : Int) := ⟨z0.toNat, by omega⟩
    exact ⟨⟨tg, z1, z2⟩, rfl, trivial⟩
theorem atV_of {α : Type} {f : α → List Value} {c : Nat} {a : Option Addr} {L : List α} (h : L = [] ∨ ∃ b off, a = some ⟨b, off, none⟩ ∧ ∀ k (hk : k < L.length), ∀ j u, (f L[k])[j]? = some u → W.cell? ⟨b, off + k * c + j, none⟩ = some u) : AtV f c W a L := by
  rcases h with h | ⟨b, off, e, h⟩
  · exact .inl h
  · refine .inr ⟨b, off, e, fun k x hx j u hu => ?_⟩
    obtain ⟨hk, rfl⟩ := List.getElem?_eq_some_iff.1 hx
    exact h k hk j u hu
set_option maxRecDepth 100000 in
theorem program_open {r : Reach} {b0 : Nat} {v : Value} {d : DataW H} {p : List MemPlace} (hv : Value.okWide Try.prog W r b0 26 v) (h : DataW.Trod enc Try.prog W base (fun _ => true) held 26 v d p) (hw : (d.weights Try.prog 26).all (· ≤ reachBytes) = true) :
    ∃ (g : PrgC) (a1 : Option Addr) (c1 : Nat) (a2 : Option Addr) (c2 : Nat) (a3 : Option Addr) (c3 : Nat) (LP : List (PrtC × (Option Addr × Nat))) (LL : List (LinC × (Option Addr × Nat))), v = prgV g a1 c1 a2 c2 a3 c3 ∧ PrgL W g a1 a2 a3 LP LL ∧ FitP g := by
  obtain ⟨cs, rfl, hsz⟩ := okWide_struct Try.underlying26 hv
  rw [Try.cellsYG] at hsz
  obtain ⟨fuel, hf⟩ := h
  obtain ⟨xs, k, hk, hxy, hcl, hxl, hf⟩ := DataW.trod_struct Try.underlying26 hf
  obtain ⟨l⟩ := cs
  match xs, hxl, l, hsz with
  | [y0, y1, y2, y3, y4, y5, y6], _, [v0, v1, v2, v3, v4, v5, v6], _ =>
    have g0 := hf 0 _ rfl
    have g1 := hf 1 _ rfl
    have g2 := hf 2 _ rfl
    have g3 := hf 3 _ rfl
    have g4 := hf 4 _ rfl
    have g5 := hf 5 _ rfl
    have g6 := hf 6 _ rfl
    simp [Value.cells, Try.cells3G, Try.cellsSP, Try.cellsSL, Try.cellsSO] at g0 g1 g2 g3 g4 g5 g6
    have hd := congrArg Prod.fst hxy
    simp only at hd
    rw [hd] at hw
    simp only [DataW.weights, Try.underlying26] at hw
    rw [List.all_eq_true] at hw
    have w4 : (y4.1.weights Try.prog 22).all (· ≤ reachBytes) = true := by rw [List.all_eq_true]; exact fun m hm => hw m (DataW.weights_mem_each (j := 4) (t := 22) (d := y4.1) rfl rfl m hm)
    have w5 : (y5.1.weights Try.prog 23).all (· ≤ reachBytes) = true := by rw [List.all_eq_true]; exact fun m hm => hw m (DataW.weights_mem_each (j := 5) (t := 23) (d := y5.1) rfl rfl m hm)
    have w6 : (y6.1.weights Try.prog 24).all (· ≤ reachBytes) = true := by rw [List.all_eq_true]; exact fun m hm => hw m (DataW.weights_mem_each (j := 6) (t := 24) (d := y6.1) rfl rfl m hm)
    obtain ⟨z0, q0, -, -⟩ := DataW.trod_int Try.underlying3 g0
    obtain ⟨z1, q1, -, -⟩ := DataW.trod_int Try.underlying3 g1
    obtain ⟨z2, q2, -, -⟩ := DataW.trod_int Try.underlying3 g2
    obtain ⟨z3, q3, -, -⟩ := DataW.trod_int Try.underlying3 g3
    simp only [List.cons.injEq, and_true] at q0 q1 q2 q3
    subst q0 q1 q2 q3
    obtain ⟨a1, c1, As, rfl, -, -, p1, r1⟩ := sliceG_open 22 68 2 32 prtV prtV_len (⟨0, []⟩, (none, 0)) Try.underlying22 (by decide) Try.cellsYP Try.bytesYP (GoodP W) (fun h hw => partY_open h hw) g4 w4
    obtain ⟨a2, c2, Es, rfl, -, -, p2, r2⟩ := sliceG_open 23 48 3 40 linV linV_len (⟨0, 0, []⟩, (none, 0)) Try.underlying23 (by decide) Try.cellsYL Try.bytesYL (GoodL W) (fun h hw => lineY_open h hw) g5 w5
    obtain ⟨a3, c3, Os, rfl, -, -, -, r3⟩ := sliceG_open 24 43 3 24 opV opV_len ⟨0, 0, 0⟩ Try.underlying24 (by decide) Try.cellsYO Try.bytesYO (fun _ => True) (fun h _ => opY_open h) g6 w6
    refine ⟨⟨z0, z1, z2, z3, As.map Prod.fst, Es.map Prod.fst, Os⟩, a1, c1, a2, c2, a3, c3, As, Es, by unfold prgV; simp only [List.length_map], ⟨rfl, atV_of r1, fun x hx => (p1 x hx).2, rfl, atV_of r2, fun x hx => (p2 x hx).2.2, atV_of r3⟩, ⟨⟨fun q hq => ?_, fun q hq => ?_⟩, fun q hq => ?_⟩⟩
    · obtain ⟨x, hx, rfl⟩ := List.mem_map.1 hq
      exact (p1 x hx).1
    · obtain ⟨x, hx, rfl⟩ := List.mem_map.1 hq
      exact (p2 x hx).1
    · obtain ⟨x, hx, rfl⟩ := List.mem_map.1 hq
      exact (p2 x hx).2.1
end
theorem fine_op {p : PrgC} (h : (stepC codeS p).2 = 0) {k : Nat} {q : OpC} (hk : p.ops[k]? = some q) : letsC p q = true ∧ (q.kind = 0 ↔ k + 1 = p.ops.length) := by
  obtain ⟨-, -, -, -, h5⟩ := step_zero h
  obtain ⟨h1, h2, -, -⟩ := along_zero h5
  obtain ⟨hlt, e⟩ := List.getElem?_eq_some_iff.1 hk
  have en : nthO p.ops k = q := by unfold nthO; rw [List.getD_eq_getElem?_getD, hk]; rfl
  have hm := (run_step h1 hlt).1
  rw [en] at hm
  obtain ⟨m1, m2⟩ := may_lets hm
  refine ⟨m1, m2, fun e1 => ?_⟩
  obtain ⟨-, l2⟩ := last_iff h2
  rw [← e1, Nat.add_sub_cancel, en] at l2
  exact l2
theorem op_kind {p : PrgC} {q : OpC} (h : letsC p q = true) : q.kind < 8 := by
  unfold letsC at h
  split at h <;> first | omega | cases h
theorem step_bad {K : Nat → List Int → Int} {p : PrgC} (h : (stepC K p).2 ≠ 0) : (stepC K p).1 = 0 := by
  unfold stepC at h ⊢
  by_cases h1 : limC p = 0
  · rw [if_pos h1] at h ⊢
    by_cases h2 : partsC K p.parts = 0
    · rw [if_pos h2] at h ⊢
      by_cases h3 : linesC p.mem p.lines = 0
      · rw [if_pos h3] at h ⊢
        unfold alongC at h ⊢
        by_cases h4 : (runC p p.ops.length).1 = 0
        · rw [if_pos h4] at h ⊢
          by_cases h5 : lastC p = true
          · rw [if_pos h5] at h ⊢
            by_cases h6 : (runC p p.ops.length).2.steps = 131073
            · rw [if_pos h6]
            · rw [if_neg h6] at h; exact absurd rfl h
          · rw [if_neg h5]
        · rw [if_neg h4]
      · rw [if_neg h3]
    · rw [if_neg h2]
  · rw [if_neg h1]
theorem letsHd9 {p : PrgC} {q : OpC} (hk : q.kind = 1) (h : letsC p q = true) : (0 ≤ q.a ∧ q.a < p.cnt) ∧ 1 ≤ q.b ∧ q.b ≤ 2048 := by
  unfold letsC at h
  rw [hk] at h
  simpa only [Bool.and_eq_true, naC_iff, wiC_iff] using h
theorem letsBk9 {p : PrgC} {q : OpC} (hk : q.kind = 2) (h : letsC p q = true) : (0 ≤ q.a ∧ q.a < p.cnt) ∧ 0 ≤ q.b ∧ q.b < p.ops.length := by
  unfold letsC at h
  rw [hk] at h
  simpa only [Bool.and_eq_true, naC_iff] using h
theorem go_bound {p : PrgC} {s : Nat × (Int → Int)} (hok : OkC p s) (hl : letsC p (nthO p.ops s.1) = true) (hb : ∀ i, 0 ≤ s.2 i ∧ s.2 i ≤ 2048) : ∀ i, 0 ≤ (goC p s).2 i ∧ (goC p s).2 i ≤ 2048 := by
  intro i
  unfold goC
  by_cases h1 : (nthO p.ops s.1).kind = 1
  · rw [if_pos h1]
    have := letsHd9 h1 hl
    show 0 ≤ updC _ _ _ i ∧ updC _ _ _ i ≤ 2048
    unfold updC
    by_cases hi : i = (nthO p.ops s.1).a
    · rw [if_pos hi]; omega
    · rw [if_neg hi]; exact hb i
  · rw [if_neg h1]
    by_cases h2 : (nthO p.ops s.1).kind = 2
    · rw [if_pos h2]
      have := hok.back h2
      have := hb (nthO p.ops s.1).a
      show 0 ≤ updC _ _ _ i ∧ updC _ _ _ i ≤ 2048
      unfold updC
      by_cases hi : i = (nthO p.ops s.1).a
      · rw [if_pos hi]; omega
      · rw [if_neg hi]; exact hb i
    · rw [if_neg h2]; exact hb i
/-- The counters' row. -/
def rowC9 (n : Nat) (c : Int → Int) : List Int := (List.range n).map fun i : Nat => c (i : Int)
theorem rowC9_len (n : Nat) (c : Int → Int) : (rowC9 n c).length = n := by simp [rowC9]
theorem rowC9_nth {n k : Nat} (c : Int → Int) (h : k < n) : nth (rowC9 n c) k = c (k : Int) := by
  unfold nth
  rw [List.getD_eq_getElem?_getD, List.getElem?_eq_getElem (by rw [rowC9_len]; exact h)]
  simp [rowC9]
theorem rowC9_set (n k : Nat) (c : Int → Int) (x : Int) : (rowC9 n c).set k x = rowC9 n (updC c (k : Int) x) := by
  apply List.ext_getElem?
  intro j
  unfold rowC9 updC
  by_cases hj : j < n
  · by_cases hjk : k = j
    · subst hjk
      rw [List.getElem?_set_self (by simp; exact hj)]
      simp [hj]
    · rw [List.getElem?_set_ne hjk]
      have : ¬ (j : Int) = (k : Int) := by omega
      simp [hj, this]
  · rw [List.getElem?_eq_none (by simp; omega), List.getElem?_eq_none (by simp; omega)]
theorem rowC9_zero (n : Nat) : List.replicate n (0 : Int) = rowC9 n fun _ => 0 := by
  apply List.ext_getElem?
  intro j
  unfold rowC9
  by_cases hj : j < n <;> simp [hj]
theorem made_zeroC {w0 : World} {B g n : Nat} (h : w0.ownsRow B 3 1 (.slice (some ⟨g, 0, none⟩) n n) n (madeCells (Value.cells (.int .i64 0)) (n * 1)).toList) : CapR B w0 (some ⟨g, 0, none⟩) n (List.replicate n 0) := by
  unfold CapR
  have e : (madeCells (Value.cells (.int .i64 0)) (n * 1)).toList = (List.replicate n 0).map (Value.int .i64) := by
    show (madeCells #[.int .i64 0] (n * 1)).toList = _
    apply List.ext_getElem?
    intro k
    rw [Nat.mul_one]
    by_cases hk : k < n <;> simp [madeCells, hk, Nat.mod_one]
  rw [e] at h
  simpa using h
theorem nthO_of {l : List OpC} {k : Nat} (h : k < l.length) : l[k]? = some (nthO l k) := by
  unfold nthO
  rw [List.getD_eq_getElem?_getD, List.getElem?_eq_getElem h]
  rfl
set_option maxRecDepth 100000 in
set_option maxHeartbeats 32000000 in
theorem codeDone_walk (p : PrgC) (aP : Option Addr) (cP : Nat) (aL : Option Addr) (cL : Nat) (aO : Option Addr) (cO : Nat) (LP : List (PrtC × (Option Addr × Nat))) (LL : List (LinC × (Option Addr × Nat))) (W : World) (hL : PrgL W p aP aL aO LP LL) (hF : FitP p) :
    Calls Try.prog 5 #[prgV p aP cP aL cL aO cO] W fun e w' => e = .returned (.bool true) ∧ Below W.heap.size W w' := by
  obtain ⟨PE, hPE⟩ : ∃ Q : Ending → World → Prop, (fun e w' => e = .returned (.bool true) ∧ Below W.heap.size W w') = Q := ⟨_, rfl⟩
  rw [hPE]
  have HPE := hiddenC hPE
  have HL := hiddenC hL
  have AW := hiddenC awake20
  have SP : Hid (∀ U, Below W.heap.size W U → Calls Try.prog 11 #[prgV p aP cP aL cL aO cO] U fun e w' => e = .returned (.tuple #[.int .i64 (stepC codeS p).1, .int .i64 (stepC codeS p).2]) ∧ Below U.heap.size U w') := fun U hb => steps_any p aP cP aL cL aO cO LP LL U (hL.below hb) hF
  obtain ⟨nP, hnP⟩ : ∃ n, p.parts.length = n := ⟨_, rfl⟩
  obtain ⟨nL, hnL⟩ : ∃ n, p.lines.length = n := ⟨_, rfl⟩
  obtain ⟨nO, hnO⟩ : ∃ n, p.ops.length = n := ⟨_, rfl⟩
  have HNO := hiddenC hnO
  unfold prgV at SP ⊢
  rw [hnP, hnL, hnO] at SP ⊢
  clear hPE hL hF
  by_cases h0 : (stepC codeS p).2 = 0
  · obtain ⟨t1, -, -, t4, h5⟩ := step_zero h0
    obtain ⟨-, ⟨m0, m1⟩, -, -, -, -, m7⟩ := lim_zero t1
    rw [hnO] at m7
    obtain ⟨N, hN⟩ : ∃ N : Nat, p.cnt = (N : Int) := ⟨p.cnt.toNat, by omega⟩
    have HN := hiddenC hN
    obtain ⟨⟨q1, q2⟩, q3, q4, q5⟩ := done_all h5
    obtain ⟨n, hn⟩ : ∃ n : Nat, (alongC p).1 = (n : Int) := ⟨(alongC p).1.toNat, by omega⟩
    rw [h0, t4, hn, hN] at SP
    rw [hn] at q1 q2 q5
    have e1 : ((n : Int) - 1).toNat = n - 1 := by omega
    rw [e1] at q5
    have OKS : Hid (∀ d, d + 1 < n → OkC p (exeC p d (0, fun _ => 0))) := fun d hd => q5.ok d (by omega)
    have ENDS : Hid (∀ d, d + 1 = n → exeC p d (0, fun _ => 0) = (p.ops.length - 1, fun _ => 0)) := fun d hd => by
      have q := q5.2
      rw [show n - 1 = d by omega] at q
      exact q
    have KEND := hiddenC q4
    have HO0 := hiddenC q3
    have FO : Hid (∀ k q, p.ops[k]? = some q → letsC p q = true) := fun k q hk => (fine_op h0 hk).1
    have hN17 : N ≤ 17 := by omega
    have hn1 : 1 ≤ n ∧ n ≤ 131072 := by omega
    have g1 : ¬ (N : Int) < 0 := by omega
    have g2 : ¬ (N : Int) > 17 := by omega
    have g3 : ¬ (n : Int) < 1 := by omega
    have g4 : ¬ (n : Int) > 131072 := by omega
    rw [hN]
    have B0 := hiddenC ((Below.refl W.heap.size W).alloc (Nat.le_refl _) (.cells #[.int .i64 p.mem, .int .i64 (N : Int), .int .i64 p.ins, .int .i64 p.outs, .slice aP nP cP, .slice aL nL cL, .slice aO nO cO] 26))
    have G0 := hiddenC (blkA_new 26 W #[.int .i64 p.mem, .int .i64 (N : Int), .int .i64 p.ins, .int .i64 p.outs, .slice aP nP cP, .slice aL nL cL, .slice aO nO cO])
    obtain ⟨i0, hi, hz0, hz1, hz2⟩ := info_parts Try.info3
    clear hnP hnL hnO h0 t1 t4 h5 m0 m1 hN q1 q2 q3 q4 q5 hn e1
    go_enter Try.func5, Try.ntmps5
    go_upto_region 1 with fail
    generalize W.alloc (.cells #[.int .i64 p.mem, .int .i64 (N : Int), .int .i64 p.ins, .int .i64 p.outs, .slice aP nP cP, .slice aL nL cL, .slice aO nO cO] 26) = W1 at *
    have z0 := G0.out.cell (k := 0) rfl
    have z1 := G0.out.cell (k := 1) rfl
    have z2 := G0.out.cell (k := 2) rfl
    have z3 := G0.out.cell (k := 3) rfl
    have z4 := G0.out.cell (k := 4) rfl
    have z5 := G0.out.cell (k := 5) rfl
    have z6 := G0.out.cell (k := 6) rfl
    simp only [List.getElem_toArray, List.getElem_cons_zero, List.getElem_cons_succ] at z0 z1 z2 z3 z4 z5 z6
    go_upto_region 4 with (go_at_call 11; (with_reducible refine (SP.out _ B0.out).mono ?_); rintro e w2 ⟨rfl, q2⟩; have B2 := hiddenC (B0.out.trans (q2.mono B0.out.size)); have G2 := hiddenC (G0.out.below q2); clear q2)
    clear z0 z1 z2 z3 z4 z5 z6 SP
    have z0 := G2.out.cell (k := 0) rfl
    have z1 := G2.out.cell (k := 1) rfl
    have z2 := G2.out.cell (k := 2) rfl
    have z3 := G2.out.cell (k := 3) rfl
    have z4 := G2.out.cell (k := 4) rfl
    have z5 := G2.out.cell (k := 5) rfl
    have z6 := G2.out.cell (k := 6) rfl
    simp only [List.getElem_toArray, List.getElem_cons_zero, List.getElem_cons_succ] at z0 z1 z2 z3 z4 z5 z6
    have HW2 : Hid (W.heap.size < w2.heap.size) := G2.out.lt
    go_upto_region 7 with (at_make; refine wpList_make_full _ rfl _ _ 40 rfl w2.heap.size 3 i0 (.int .i64 0) 1 Try.underlying40 hi hz0 hz1 _ _ _ _ N rfl rfl rfl rfl (by rw [hz2]; omega) (by unfold maxLen; omega) (Nat.le_refl _) ?_; intro w0 hown0 hgrow0; have BM := hiddenC ((Below.refl w2.heap.size w2).grown hgrow0 (Nat.le_refl _) (fun k h => by cases h)); have C0 := hiddenC (made_zeroC hown0); clear hown0 hgrow0)
    have B3 := hiddenC (B2.out.trans (BM.out.mono B2.out.size))
    have G3 := hiddenC (G2.out.below BM.out)
    obtain ⟨g, hg⟩ : ∃ q, w2.heap.size = q := ⟨_, rfl⟩
    rw [hg] at C0 HW2 ⊢
    rw [rowC9_zero] at C0
    clear hg z0 z1 z2 z3 z4 z5 z6 hi hz0 hz1 hz2 g1 g2 g3 g4 B2 G2 BM B0 G0
    go_wp2
    go_loopg [6, 7] n (fun gk u6 u7 wr => ∃ d, d + 1 ≤ n ∧ gk = n - d ∧ u6 = .int .i64 ((exeC p d (0, fun _ => 0)).1 : Int) ∧ u7 = .int .i64 ((d : Int) + 1) ∧ (∀ i, 0 ≤ (exeC p d (0, fun _ => 0)).2 i ∧ (exeC p d (0, fun _ => 0)).2 i ≤ 2048) ∧ Below W.heap.size W wr ∧ BlkA 26 W.heap.size wr #[.int .i64 p.mem, .int .i64 (N : Int), .int .i64 p.ins, .int .i64 p.outs, .slice aP nP cP, .slice aL nL cL, .slice aO nO cO] ∧ CapR g wr (some ⟨g, 0, none⟩) N (rowC9 N (exeC p d (0, fun _ => 0)).2))
    case atStart => exact ⟨0, by omega, rfl, rfl, rfl, fun i => ⟨Int.le_refl 0, (by decide : (0 : Int) ≤ 2048)⟩, B3.out, G3.out, C0.out⟩
    case round =>
      obtain ⟨d, hd, rfl, rfl, rfl, hbd, hb, hg, hr⟩ := hrel
      obtain ⟨s, hs⟩ : ∃ s, exeC p d (0, fun _ => 0) = s := ⟨_, rfl⟩
      have HSX : Hid (exeC p (d + 1) (0, fun _ => 0) = goC p s) := by
        show _ = _
        rw [exe_add, hs]
        rfl
      have hok := OKS.out d
      have hen := ENDS.out d
      rw [hs] at hbd hr hok hen ⊢
      have HBD := hiddenC hbd
      have HB := hiddenC hb
      have HG := hiddenC hg
      have HR := hiddenC hr
      have hkl : s.1 < p.ops.length := by
        by_cases h : d + 1 < n
        · exact (hok h).lt
        · rw [hen (by omega)]; have := HO0.out; show p.ops.length - 1 < _; omega
      have hget := nthO_of hkl
      have hl := FO.out _ _ hget
      have hbn : Hid (d + 1 < n → ∀ i, 0 ≤ (goC p s).2 i ∧ (goC p s).2 i ≤ 2048) := fun h => go_bound (hok h) hl HBD.out
      have hky : Hid (((d + 1 = n ∧ (nthO p.ops s.1).kind = 0) ∨ (d + 1 < n ∧ OkC p s))) := by
        by_cases h : d + 1 < n
        · exact .inr ⟨h, hok h⟩
        · exact .inl ⟨by omega, by rw [hen (by omega)]; exact KEND.out⟩
      rcases HL.out.oa.below HB.out with e1 | ⟨ab, off, rfl, hc⟩
      · rw [e1] at hkl; exact absurd hkl (Nat.not_lt_zero _)
      have HC := hiddenC (hc s.1 _ hget)
      have h8 := op_kind hl
      have HKL : Hid (s.1 < nO) := by show _ < _; rw [← HNO.out]; exact hkl
      have hgo : Hid (goC p s = goC p s) := rfl
      unfold goC at HSX hbn
      obtain ⟨q, hq⟩ : ∃ q, nthO p.ops s.1 = q := ⟨_, rfl⟩
      rw [hq] at HSX hbn hl hky HC h8
      have HQ := hiddenC hq
      clear hbd hb hg hr hok hen hc hkl hget hs hgo hq B3 G3 C0
      obtain ⟨k, c⟩ := s
      obtain ⟨t, a, b⟩ := q
      simp only at HSX hbn hl hky HC h8 HBD HR HKL ⊢
      have HK := hiddenC hky
      clear hky
      have hk0 : ¬ (k : Int) < 0 := by omega
      have hk1 : ¬ (k : Int) ≥ (nO : Int) := by have := HKL.out; omega
      have hki : (k : Int) < (nO : Int) := by have := HKL.out; omega
      have hdn : (d : Int) + 1 ≤ (n : Int) := by omega
      have hwk : IntKind.i64.wrap ((k : Int) + 1) = (k : Int) + 1 := by rw [IntKind.wrap_i64]; omega
      have hwd : IntKind.i64.wrap ((d : Int) + 1 + 1) = (d : Int) + 1 + 1 := by rw [IntKind.wrap_i64]; omega
      have z0 := HG.out.cell (k := 0) rfl
      have z1 := HG.out.cell (k := 1) rfl
      have z2 := HG.out.cell (k := 2) rfl
      have z3 := HG.out.cell (k := 3) rfl
      have z4 := HG.out.cell (k := 4) rfl
      have z5 := HG.out.cell (k := 5) rfl
      have z6 := HG.out.cell (k := 6) rfl
      simp only [List.getElem_toArray, List.getElem_cons_zero, List.getElem_cons_succ] at z0 z1 z2 z3 z4 z5 z6
      match t, h8, hl, HSX, hbn, HK, HC, HQ with
      | 0, _, hl, HSX, hbn, HK, HC, HQ =>
        have hdn2 : Hid (d + 1 = n) := by
          rcases HK.out with ⟨h, -⟩ | ⟨-, h⟩
          · exact h
          · exact absurd (by rw [HQ.out]) h.notEnd
        have r0 : wr.cell? ⟨ab, off + k * 3 + 0, none⟩ = some (.int .u8 0) := HC.out 0 _ rfl
        have r1 := HC.out 1 _ rfl
        have r2 := HC.out 2 _ rfl
        simp only [Nat.add_zero] at r0 r1 r2
        have b1 := (Below.refl wr.heap.size wr).alloc (Nat.le_refl _) (.cells #[.int .u8 0, .int .i64 a, .int .i64 b] 43)
        have HB1 := hiddenC (HB.out.trans (b1.mono HB.out.size))
        have HG1 := hiddenC (HG.out.below b1)
        have HR1 := hiddenC (HR.out.later b1)
        have g1 := blkA_new 43 wr #[.int .u8 0, .int .i64 a, .int .i64 b]
        go_upto_region 14 with fail
        generalize wr.alloc (.cells #[.int .u8 0, .int .i64 a, .int .i64 b] 43) = w3 at *
        obtain ⟨ob, hob⟩ : ∃ q, wr.heap.size = q := ⟨_, rfl⟩
        have HOB : Hid (ob ≠ g) := by
          have := (HR.out.lt _ rfl).2
          show _ ≠ _
          simp only at this
          omega
        rw [hob] at g1 ⊢
        have X0 := hiddenC (g1.cell (k := 0) rfl)
        have X1 := hiddenC (g1.cell (k := 1) rfl)
        have X2 := hiddenC (g1.cell (k := 2) rfl)
        simp only [List.getElem_toArray, List.getElem_cons_zero, List.getElem_cons_succ] at X0 X1 X2
        have x0 := X0.out
        have x1 := X1.out
        have x2 := X2.out
        clear b1 g1 hob z0 z1 z2 z3 z4 z5 z6 r0 r1 r2
        have z0 := HG1.out.cell (k := 0) rfl
        have z1 := HG1.out.cell (k := 1) rfl
        have z2 := HG1.out.cell (k := 2) rfl
        have z3 := HG1.out.cell (k := 3) rfl
        have z4 := HG1.out.cell (k := 4) rfl
        have z5 := HG1.out.cell (k := 5) rfl
        have z6 := HG1.out.cell (k := 6) rfl
        simp only [List.getElem_toArray, List.getElem_cons_zero, List.getElem_cons_succ] at z0 z1 z2 z3 z4 z5 z6
        have hde : ((d : Int) + 1 == (n : Int)) = true := by have := hdn2.out; simp; omega
        go_wp2_with (go_at_call 8; (with_reducible refine (AW.out _).mono ?_); rintro e w8 ⟨rfl, q2⟩; have B8 := hiddenC (HB1.out.trans (q2.mono HB1.out.size)); clear q2)
        rw [← HPE.out]
        exact ⟨rfl, B8.out⟩
      | 1, _, hl, HSX, hbn, HK, HC, HQ =>
        obtain ⟨hdl, hok⟩ : d + 1 < n ∧ OkC p (k, c) := by
          rcases HK.out with ⟨-, h⟩ | h
          · exact absurd h (by decide)
          · exact h
        have HBN := hiddenC (hbn.out hdl)
        rw [← HSX.out] at HBN
        have hz := hok.head (by rw [HQ.out])
        rw [HQ.out] at hz
        simp only at hz
        obtain ⟨⟨l1, l2⟩, l3, l4⟩ := letsHd9 rfl hl
        simp only at l1 l2 l3 l4
        rw [HN.out] at l2
        obtain ⟨m, rfl⟩ : ∃ m : Nat, a = (m : Int) := ⟨a.toNat, by omega⟩
        have HX : Hid (exeC p (d + 1) (0, fun _ => 0) = (k + 1, updC c (m : Int) b)) := by
          have q := HSX.out
          rw [if_pos (by decide)] at q
          exact q
        have n1 : ¬ (m : Int) < 0 := by omega
        have n2 : ¬ (m : Int) ≥ (N : Int) := by omega
        have hmi : (m : Int) < (N : Int) := by omega
        have hmN : m < N := by omega
        have n3 : ¬ b < 1 := by omega
        clear hok hl HSX hbn l1 l2 l3 l4
        have r0 : wr.cell? ⟨ab, off + k * 3 + 0, none⟩ = some (.int .u8 1) := HC.out 0 _ rfl
        have r1 := HC.out 1 _ rfl
        have r2 := HC.out 2 _ rfl
        simp only [Nat.add_zero] at r0 r1 r2
        have b1 := (Below.refl wr.heap.size wr).alloc (Nat.le_refl _) (.cells #[.int .u8 1, .int .i64 (m : Int), .int .i64 b] 43)
        have HB1 := hiddenC (HB.out.trans (b1.mono HB.out.size))
        have HG1 := hiddenC (HG.out.below b1)
        have HR1 := hiddenC (HR.out.later b1)
        have g1 := blkA_new 43 wr #[.int .u8 1, .int .i64 (m : Int), .int .i64 b]
        go_upto_region 14 with fail
        generalize wr.alloc (.cells #[.int .u8 1, .int .i64 (m : Int), .int .i64 b] 43) = w3 at *
        obtain ⟨ob, hob⟩ : ∃ q, wr.heap.size = q := ⟨_, rfl⟩
        have HOB : Hid (ob ≠ g) := by
          have := (HR.out.lt _ rfl).2
          show _ ≠ _
          simp only at this
          omega
        rw [hob] at g1 ⊢
        have X0 := hiddenC (g1.cell (k := 0) rfl)
        have X1 := hiddenC (g1.cell (k := 1) rfl)
        have X2 := hiddenC (g1.cell (k := 2) rfl)
        simp only [List.getElem_toArray, List.getElem_cons_zero, List.getElem_cons_succ] at X0 X1 X2
        have x0 := X0.out
        have x1 := X1.out
        have x2 := X2.out
        clear b1 g1 hob z0 z1 z2 z3 z4 z5 z6 r0 r1 r2
        have z0 := HG1.out.cell (k := 0) rfl
        have z1 := HG1.out.cell (k := 1) rfl
        have z2 := HG1.out.cell (k := 2) rfl
        have z3 := HG1.out.cell (k := 3) rfl
        have z4 := HG1.out.cell (k := 4) rfl
        have z5 := HG1.out.cell (k := 5) rfl
        have z6 := HG1.out.cell (k := 6) rfl
        simp only [List.getElem_toArray, List.getElem_cons_zero, List.getElem_cons_succ] at z0 z1 z2 z3 z4 z5 z6
        have y0 : w3.cell? ⟨g, m, none⟩ = some (.int .i64 0) := by
          have q := HR1.out.nthCell (k := m) (by rw [rowC9_len]; exact hmN)
          rw [rowC9_nth c hmN, hz] at q
          exact q
        have y1 := HR1.out.fz m
        have HGW : Hid (W.heap.size ≠ g) := by have := HW2.out; show _ ≠ _; omega
        have HGL : Hid (W.heap.size ≤ g) := by have := HW2.out; show _ ≤ _; omega
        clear hz hmN
        go_wp2
        go_roundg (n - (d + 1))
        case measure => omega
        case rel =>
          refine ⟨d + 1, by omega, rfl, ?_, ?_, ?_, ?_, ?_, ?_⟩
          · rw [HX.out]
            show _ = Value.int .i64 (((k + 1 : Nat)) : Int)
            first | go_num | (simp only [Nat.cast_add, Nat.cast_one]; go_num)
          · go_num
          · exact HBN.out
          · exact HB1.out.setCell (p := ⟨g, m, none⟩) HGL.out _
          · exact HG1.out.but (But.set w3 g m _) HGW.out
          · rw [HX.out]
            rw [← rowC9_set]; exact HR1.out.setAt b
      | 2, _, hl, HSX, hbn, HK, HC, HQ =>
        obtain ⟨hdl, hok⟩ : d + 1 < n ∧ OkC p (k, c) := by
          rcases HK.out with ⟨-, h⟩ | h
          · exact absurd h (by decide)
          · exact h
        have HBN := hiddenC (hbn.out hdl)
        rw [← HSX.out] at HBN
        have hz := hok.back (by rw [HQ.out])
        rw [HQ.out] at hz
        simp only at hz
        obtain ⟨⟨l1, l2⟩, l3, l4⟩ := letsBk9 rfl hl
        simp only at l1 l2 l3 l4
        rw [HN.out] at l2
        rw [HNO.out] at l4
        obtain ⟨m, rfl⟩ : ∃ m : Nat, a = (m : Int) := ⟨a.toNat, by omega⟩
        obtain ⟨bn, rfl⟩ : ∃ bn : Nat, b = (bn : Int) := ⟨b.toNat, by omega⟩
        have HX0 : Hid (exeC p (d + 1) (0, fun _ => 0) = (if 0 < c (m : Int) - 1 then bn else k + 1, updC c (m : Int) (c (m : Int) - 1))) := by
          have q := HSX.out
          rw [if_neg (by decide), if_pos (by decide)] at q
          exact q
        have n1 : ¬ (m : Int) < 0 := by omega
        have n2 : ¬ (m : Int) ≥ (N : Int) := by omega
        have hmi : (m : Int) < (N : Int) := by omega
        have hmN : m < N := by omega
        have hcb := HBD.out (m : Int)
        clear hok hl HSX hbn l1 l2 l3 l4
        have r0 : wr.cell? ⟨ab, off + k * 3 + 0, none⟩ = some (.int .u8 2) := HC.out 0 _ rfl
        have r1 := HC.out 1 _ rfl
        have r2 := HC.out 2 _ rfl
        simp only [Nat.add_zero] at r0 r1 r2
        have b1 := (Below.refl wr.heap.size wr).alloc (Nat.le_refl _) (.cells #[.int .u8 2, .int .i64 (m : Int), .int .i64 (bn : Int)] 43)
        have HB1 := hiddenC (HB.out.trans (b1.mono HB.out.size))
        have HG1 := hiddenC (HG.out.below b1)
        have HR1 := hiddenC (HR.out.later b1)
        have g1 := blkA_new 43 wr #[.int .u8 2, .int .i64 (m : Int), .int .i64 (bn : Int)]
        go_upto_region 14 with fail
        generalize wr.alloc (.cells #[.int .u8 2, .int .i64 (m : Int), .int .i64 (bn : Int)] 43) = w3 at *
        obtain ⟨ob, hob⟩ : ∃ q, wr.heap.size = q := ⟨_, rfl⟩
        have HOB : Hid (ob ≠ g) := by
          have := (HR.out.lt _ rfl).2
          show _ ≠ _
          simp only at this
          omega
        rw [hob] at g1 ⊢
        have X0 := hiddenC (g1.cell (k := 0) rfl)
        have X1 := hiddenC (g1.cell (k := 1) rfl)
        have X2 := hiddenC (g1.cell (k := 2) rfl)
        simp only [List.getElem_toArray, List.getElem_cons_zero, List.getElem_cons_succ] at X0 X1 X2
        have x0 := X0.out
        have x1 := X1.out
        have x2 := X2.out
        clear b1 g1 hob z0 z1 z2 z3 z4 z5 z6 r0 r1 r2
        have z0 := HG1.out.cell (k := 0) rfl
        have z1 := HG1.out.cell (k := 1) rfl
        have z2 := HG1.out.cell (k := 2) rfl
        have z3 := HG1.out.cell (k := 3) rfl
        have z4 := HG1.out.cell (k := 4) rfl
        have z5 := HG1.out.cell (k := 5) rfl
        have z6 := HG1.out.cell (k := 6) rfl
        simp only [List.getElem_toArray, List.getElem_cons_zero, List.getElem_cons_succ] at z0 z1 z2 z3 z4 z5 z6
        have Y0 : Hid (w3.cell? ⟨g, m, none⟩ = some (.int .i64 (c (m : Int)))) := by
          have q := HR1.out.nthCell (k := m) (by rw [rowC9_len]; exact hmN)
          rw [rowC9_nth c hmN] at q
          exact q
        have HGW : Hid (W.heap.size ≠ g) := by have := HW2.out; show _ ≠ _; omega
        have HGL : Hid (W.heap.size ≤ g) := by have := HW2.out; show _ ≤ _; omega
        have HC1 : Hid (∀ U, Below w3.heap.size w3 U → CapR g (U.setCell ⟨g, m, none⟩ (.int .i64 (c (m : Int) - 1))) (some ⟨g, 0, none⟩) N (rowC9 N (updC c (m : Int) (c (m : Int) - 1)))) := fun U hb => by
          rw [← rowC9_set]
          exact (HR1.out.later hb).setAt _
        have HFZ : Hid (∀ U, Below w3.heap.size w3 U → U.frozen? ⟨g, m, none⟩ = false) := fun U hb => (HR1.out.later hb).fz m
        generalize updC c (m : Int) (c (m : Int) - 1) = c2 at *
        generalize c (m : Int) = ca at *
        have n3 : ¬ ca < 1 := by omega
        have hwc : IntKind.i64.wrap (ca - 1) = ca - 1 := by rw [IntKind.wrap_i64]; omega
        have y0 := Y0.out
        clear hz hmN hcb
        go_upto_region 25 with fail
        clear x0 x1 x2 y0
        refine wp_region_said 10 (fun i u v => match i with
            | 0 => v = .slice (some ⟨g, 0, none⟩) N N
            | 1 => v = .pointer (some ⟨ob, 1, none⟩)
            | 2 => v = .int .i64 (m : Int)
            | 3 => v = .slice (some ⟨g, 0, none⟩) N N
            | 4 => v = .pointer (some ⟨ob, 1, none⟩)
            | 5 => v = .int .i64 (m : Int)
            | 6 => v = .pointer (some ⟨g, m, none⟩)
            | 7 => v = .int .i64 ca
            | 8 => v = .int .i64 (ca - 1)
            | 9 => v = .pointer (some ⟨g, m, none⟩)
            | _ => True) (by kernel_rfl) (by kernel_rfl) (by kernel_rfl) (by kernel_rfl) ?_ ?_ ?_
        · intro i w v w' h hb
          match i, h with
          | 0, h => exact h
          | 1, h => exact h
          | 2, h => exact h
          | 3, h => exact h
          | 4, h => exact h
          | 5, h => exact h
          | 6, h => exact h
          | 7, h => exact h
          | 8, h => exact h
          | 9, h => exact h
          | _ + 10, _ => trivial
        · intro i o ρ w' hi ho hb hc hf hfr hdep
          have x1 := cellC_later hb X1.out
          have y0 := cellC_later hb Y0.out
          match i, hi with
          | 0, _ =>
            simp only [gTA, gCZ, gSI] at ho
            subst ho
            have ts : ρ (.tmp 5) = .slice (some ⟨g, 0, none⟩) N N := hfr 5 (by kernel_rfl)
            simp [go_sem, ts]
            exact ⟨Below.refl _ _, rfl⟩
          | 1, _ =>
            simp only [gTA, gCZ, gCS, gSI] at ho
            subst ho
            have ts : ρ (.tmp 8) = .pointer (some ⟨ob, 0, none⟩) := hfr 8 (by kernel_rfl)
            simp [go_sem, ts]
            exact ⟨Below.refl _ _, rfl⟩
          | 2, _ =>
            simp only [gTA, gCZ, gCS, gSI] at ho
            subst ho
            have ts : ρ (.tmp 123) = .pointer (some ⟨ob, 1, none⟩) := hdep 1 123 (by kernel_rfl) (by kernel_rfl)
            simp [go_sem, ts, x1]
            exact ⟨Below.refl _ _, rfl⟩
          | 3, _ =>
            simp only [gTA, gCZ, gCS, gSI] at ho
            subst ho
            have ts : ρ (.tmp 5) = .slice (some ⟨g, 0, none⟩) N N := hfr 5 (by kernel_rfl)
            simp [go_sem, ts]
            exact ⟨Below.refl _ _, rfl⟩
          | 4, _ =>
            simp only [gTA, gCZ, gCS, gSI] at ho
            subst ho
            have ts : ρ (.tmp 8) = .pointer (some ⟨ob, 0, none⟩) := hfr 8 (by kernel_rfl)
            simp [go_sem, ts]
            exact ⟨Below.refl _ _, rfl⟩
          | 5, _ =>
            simp only [gTA, gCZ, gCS, gSI] at ho
            subst ho
            have ts : ρ (.tmp 126) = .pointer (some ⟨ob, 1, none⟩) := hdep 4 126 (by kernel_rfl) (by kernel_rfl)
            simp [go_sem, ts, x1]
            exact ⟨Below.refl _ _, rfl⟩
          | 6, _ =>
            simp only [gTA, gCZ, gCS, gSI] at ho
            subst ho
            have d0 : ρ (.tmp 125) = .slice (some ⟨g, 0, none⟩) N N := hdep 3 125 (by kernel_rfl) (by kernel_rfl)
            have d1 : ρ (.tmp 127) = .int .i64 (m : Int) := hdep 5 127 (by kernel_rfl) (by kernel_rfl)
            simp [go_sem, d0, d1, hmi]
            exact ⟨Below.refl _ _, rfl⟩
          | 7, _ =>
            simp only [gTA, gCZ, gCS, gSI] at ho
            subst ho
            have ts : ρ (.tmp 128) = .pointer (some ⟨g, m, none⟩) := hdep 6 128 (by kernel_rfl) (by kernel_rfl)
            simp [go_sem, ts, y0]
            exact ⟨Below.refl _ _, rfl⟩
          | 8, _ =>
            simp only [gTA, gCZ, gCS, gSI] at ho
            subst ho
            have d0 : ρ (.tmp 129) = .int .i64 ca := hdep 7 129 (by kernel_rfl) (by kernel_rfl)
            simp [go_sem, d0, hc, hwc]
            exact ⟨Below.refl _ _, rfl⟩
          | 9, _ =>
            simp only [gTA, gCZ, gCS, gSI] at ho
            subst ho
            have d0 : ρ (.tmp 122) = .slice (some ⟨g, 0, none⟩) N N := hdep 0 122 (by kernel_rfl) (by kernel_rfl)
            have d1 : ρ (.tmp 124) = .int .i64 (m : Int) := hdep 2 124 (by kernel_rfl) (by kernel_rfl)
            simp [go_sem, d0, d1, hmi]
            exact ⟨Below.refl _ _, rfl⟩
        · intro V w9 q9 hS
          have e0 : V 0 = .slice (some ⟨g, 0, none⟩) N N := hS 0 (by decide)
          have e1 : V 1 = .pointer (some ⟨ob, 1, none⟩) := hS 1 (by decide)
          have e2 : V 2 = .int .i64 (m : Int) := hS 2 (by decide)
          have e3 : V 3 = .slice (some ⟨g, 0, none⟩) N N := hS 3 (by decide)
          have e4 : V 4 = .pointer (some ⟨ob, 1, none⟩) := hS 4 (by decide)
          have e5 : V 5 = .int .i64 (m : Int) := hS 5 (by decide)
          have e6 : V 6 = .pointer (some ⟨g, m, none⟩) := hS 6 (by decide)
          have e7 : V 7 = .int .i64 ca := hS 7 (by decide)
          have e8 : V 8 = .int .i64 (ca - 1) := hS 8 (by decide)
          have e9 : V 9 = .pointer (some ⟨g, m, none⟩) := hS 9 (by decide)
          simp only [List.drop_succ_cons, List.drop_zero, List.take_succ_cons, List.take_zero, puts, e0, e1, e2, e3, e4, e5, e6, e7, e8, e9]
          clear hS e0 e1 e2 e3 e4 e5 e6 e7 e8 e9 V
          have x1 := cellC_later q9 X1.out
          have x2 := cellC_later q9 X2.out
          have y0 := cellC_later q9 Y0.out
          have y1 := HFZ.out _ q9
          have HB9 := hiddenC (HB1.out.trans (q9.mono HB1.out.size))
          have HG9 := hiddenC (HG1.out.below q9)
          have HR9 := hiddenC (HC1.out _ q9)
          have x1s : (w9.setCell ⟨g, m, none⟩ (.int .i64 (ca - 1))).cell? ⟨ob, 1, none⟩ = some (.int .i64 (m : Int)) := cellC_but (But.set w9 g m _) HOB.out x1
          have x2s : (w9.setCell ⟨g, m, none⟩ (.int .i64 (ca - 1))).cell? ⟨ob, 2, none⟩ = some (.int .i64 (bn : Int)) := cellC_but (But.set w9 g m _) HOB.out x2
          clear q9
          by_cases hgt : ca - 1 > 0
          · have HX : Hid (exeC p (d + 1) (0, fun _ => 0) = (bn, c2)) := by
              have q := HX0.out
              rw [if_pos hgt] at q
              exact q
            go_wp2
            go_roundg (n - (d + 1))
            case measure => omega
            case rel =>
              refine ⟨d + 1, by omega, rfl, ?_, ?_, ?_, ?_, ?_, ?_⟩
              · rw [HX.out]
                try rfl
              · go_num
              · exact HBN.out
              · exact HB9.out.setCell (p := ⟨g, m, none⟩) HGL.out _
              · exact HG9.out.but (But.set w9 g m _) HGW.out
              · rw [HX.out]
                exact HR9.out
          · have HX : Hid (exeC p (d + 1) (0, fun _ => 0) = (k + 1, c2)) := by
              have q := HX0.out
              rw [if_neg hgt] at q
              exact q
            go_wp2
            go_roundg (n - (d + 1))
            case measure => omega
            case rel =>
              refine ⟨d + 1, by omega, rfl, ?_, ?_, ?_, ?_, ?_, ?_⟩
              · rw [HX.out]
                show _ = Value.int .i64 (((k + 1 : Nat)) : Int)
                first | go_num | (simp only [Nat.cast_add, Nat.cast_one]; go_num)
              · go_num
              · exact HBN.out
              · exact HB9.out.setCell (p := ⟨g, m, none⟩) HGL.out _
              · exact HG9.out.but (But.set w9 g m _) HGW.out
              · rw [HX.out]
                exact HR9.out
      | 3, _, hl, HSX, hbn, HK, HC, HQ =>
        obtain ⟨hdl, hok⟩ : d + 1 < n ∧ OkC p (k, c) := by
          rcases HK.out with ⟨-, h⟩ | h
          · exact absurd h (by decide)
          · exact h
        have HBN := hiddenC (hbn.out hdl)
        rw [← HSX.out] at HBN
        have HX : Hid (exeC p (d + 1) (0, fun _ => 0) = (k + 1, c)) := by
          have q := HSX.out
          rw [if_neg (by decide), if_neg (by decide)] at q
          exact q
        clear hok hl HSX hbn
        have r0 : wr.cell? ⟨ab, off + k * 3 + 0, none⟩ = some (.int .u8 3) := HC.out 0 _ rfl
        have r1 := HC.out 1 _ rfl
        have r2 := HC.out 2 _ rfl
        simp only [Nat.add_zero] at r0 r1 r2
        have b1 := (Below.refl wr.heap.size wr).alloc (Nat.le_refl _) (.cells #[.int .u8 3, .int .i64 a, .int .i64 b] 43)
        have HB1 := hiddenC (HB.out.trans (b1.mono HB.out.size))
        have HG1 := hiddenC (HG.out.below b1)
        have HR1 := hiddenC (HR.out.later b1)
        have g1 := blkA_new 43 wr #[.int .u8 3, .int .i64 a, .int .i64 b]
        go_upto_region 14 with fail
        generalize wr.alloc (.cells #[.int .u8 3, .int .i64 a, .int .i64 b] 43) = w3 at *
        obtain ⟨ob, hob⟩ : ∃ q, wr.heap.size = q := ⟨_, rfl⟩
        have HOB : Hid (ob ≠ g) := by
          have := (HR.out.lt _ rfl).2
          show _ ≠ _
          simp only at this
          omega
        rw [hob] at g1 ⊢
        have X0 := hiddenC (g1.cell (k := 0) rfl)
        have X1 := hiddenC (g1.cell (k := 1) rfl)
        have X2 := hiddenC (g1.cell (k := 2) rfl)
        simp only [List.getElem_toArray, List.getElem_cons_zero, List.getElem_cons_succ] at X0 X1 X2
        have x0 := X0.out
        have x1 := X1.out
        have x2 := X2.out
        clear b1 g1 hob z0 z1 z2 z3 z4 z5 z6 r0 r1 r2
        have z0 := HG1.out.cell (k := 0) rfl
        have z1 := HG1.out.cell (k := 1) rfl
        have z2 := HG1.out.cell (k := 2) rfl
        have z3 := HG1.out.cell (k := 3) rfl
        have z4 := HG1.out.cell (k := 4) rfl
        have z5 := HG1.out.cell (k := 5) rfl
        have z6 := HG1.out.cell (k := 6) rfl
        simp only [List.getElem_toArray, List.getElem_cons_zero, List.getElem_cons_succ] at z0 z1 z2 z3 z4 z5 z6
        go_wp2
        go_roundg (n - (d + 1))
        case measure => omega
        case rel =>
          refine ⟨d + 1, by omega, rfl, ?_, ?_, ?_, ?_, ?_, ?_⟩
          · rw [HX.out]
            show _ = Value.int .i64 (((k + 1 : Nat)) : Int)
            first | go_num | (simp only [Nat.cast_add, Nat.cast_one]; go_num)
          · go_num
          · exact HBN.out
          · exact HB1.out
          · exact HG1.out
          · rw [HX.out]
            exact HR1.out
      | 4, _, hl, HSX, hbn, HK, HC, HQ =>
        obtain ⟨hdl, hok⟩ : d + 1 < n ∧ OkC p (k, c) := by
          rcases HK.out with ⟨-, h⟩ | h
          · exact absurd h (by decide)
          · exact h
        have HBN := hiddenC (hbn.out hdl)
        rw [← HSX.out] at HBN
        have HX : Hid (exeC p (d + 1) (0, fun _ => 0) = (k + 1, c)) := by
          have q := HSX.out
          rw [if_neg (by decide), if_neg (by decide)] at q
          exact q
        clear hok hl HSX hbn
        have r0 : wr.cell? ⟨ab, off + k * 3 + 0, none⟩ = some (.int .u8 4) := HC.out 0 _ rfl
        have r1 := HC.out 1 _ rfl
        have r2 := HC.out 2 _ rfl
        simp only [Nat.add_zero] at r0 r1 r2
        have b1 := (Below.refl wr.heap.size wr).alloc (Nat.le_refl _) (.cells #[.int .u8 4, .int .i64 a, .int .i64 b] 43)
        have HB1 := hiddenC (HB.out.trans (b1.mono HB.out.size))
        have HG1 := hiddenC (HG.out.below b1)
        have HR1 := hiddenC (HR.out.later b1)
        have g1 := blkA_new 43 wr #[.int .u8 4, .int .i64 a, .int .i64 b]
        go_upto_region 14 with fail
        generalize wr.alloc (.cells #[.int .u8 4, .int .i64 a, .int .i64 b] 43) = w3 at *
        obtain ⟨ob, hob⟩ : ∃ q, wr.heap.size = q := ⟨_, rfl⟩
        have HOB : Hid (ob ≠ g) := by
          have := (HR.out.lt _ rfl).2
          show _ ≠ _
          simp only at this
          omega
        rw [hob] at g1 ⊢
        have X0 := hiddenC (g1.cell (k := 0) rfl)
        have X1 := hiddenC (g1.cell (k := 1) rfl)
        have X2 := hiddenC (g1.cell (k := 2) rfl)
        simp only [List.getElem_toArray, List.getElem_cons_zero, List.getElem_cons_succ] at X0 X1 X2
        have x0 := X0.out
        have x1 := X1.out
        have x2 := X2.out
        clear b1 g1 hob z0 z1 z2 z3 z4 z5 z6 r0 r1 r2
        have z0 := HG1.out.cell (k := 0) rfl
        have z1 := HG1.out.cell (k := 1) rfl
        have z2 := HG1.out.cell (k := 2) rfl
        have z3 := HG1.out.cell (k := 3) rfl
        have z4 := HG1.out.cell (k := 4) rfl
        have z5 := HG1.out.cell (k := 5) rfl
        have z6 := HG1.out.cell (k := 6) rfl
        simp only [List.getElem_toArray, List.getElem_cons_zero, List.getElem_cons_succ] at z0 z1 z2 z3 z4 z5 z6
        go_wp2
        go_roundg (n - (d + 1))
        case measure => omega
        case rel =>
          refine ⟨d + 1, by omega, rfl, ?_, ?_, ?_, ?_, ?_, ?_⟩
          · rw [HX.out]
            show _ = Value.int .i64 (((k + 1 : Nat)) : Int)
            first | go_num | (simp only [Nat.cast_add, Nat.cast_one]; go_num)
          · go_num
          · exact HBN.out
          · exact HB1.out
          · exact HG1.out
          · rw [HX.out]
            exact HR1.out
      | 5, _, hl, HSX, hbn, HK, HC, HQ =>
        obtain ⟨hdl, hok⟩ : d + 1 < n ∧ OkC p (k, c) := by
          rcases HK.out with ⟨-, h⟩ | h
          · exact absurd h (by decide)
          · exact h
        have HBN := hiddenC (hbn.out hdl)
        rw [← HSX.out] at HBN
        have HX : Hid (exeC p (d + 1) (0, fun _ => 0) = (k + 1, c)) := by
          have q := HSX.out
          rw [if_neg (by decide), if_neg (by decide)] at q
          exact q
        clear hok hl HSX hbn
        have r0 : wr.cell? ⟨ab, off + k * 3 + 0, none⟩ = some (.int .u8 5) := HC.out 0 _ rfl
        have r1 := HC.out 1 _ rfl
        have r2 := HC.out 2 _ rfl
        simp only [Nat.add_zero] at r0 r1 r2
        have b1 := (Below.refl wr.heap.size wr).alloc (Nat.le_refl _) (.cells #[.int .u8 5, .int .i64 a, .int .i64 b] 43)
        have HB1 := hiddenC (HB.out.trans (b1.mono HB.out.size))
        have HG1 := hiddenC (HG.out.below b1)
        have HR1 := hiddenC (HR.out.later b1)
        have g1 := blkA_new 43 wr #[.int .u8 5, .int .i64 a, .int .i64 b]
        go_upto_region 14 with fail
        generalize wr.alloc (.cells #[.int .u8 5, .int .i64 a, .int .i64 b] 43) = w3 at *
        obtain ⟨ob, hob⟩ : ∃ q, wr.heap.size = q := ⟨_, rfl⟩
        have HOB : Hid (ob ≠ g) := by
          have := (HR.out.lt _ rfl).2
          show _ ≠ _
          simp only at this
          omega
        rw [hob] at g1 ⊢
        have X0 := hiddenC (g1.cell (k := 0) rfl)
        have X1 := hiddenC (g1.cell (k := 1) rfl)
        have X2 := hiddenC (g1.cell (k := 2) rfl)
        simp only [List.getElem_toArray, List.getElem_cons_zero, List.getElem_cons_succ] at X0 X1 X2
        have x0 := X0.out
        have x1 := X1.out
        have x2 := X2.out
        clear b1 g1 hob z0 z1 z2 z3 z4 z5 z6 r0 r1 r2
        have z0 := HG1.out.cell (k := 0) rfl
        have z1 := HG1.out.cell (k := 1) rfl
        have z2 := HG1.out.cell (k := 2) rfl
        have z3 := HG1.out.cell (k := 3) rfl
        have z4 := HG1.out.cell (k := 4) rfl
        have z5 := HG1.out.cell (k := 5) rfl
        have z6 := HG1.out.cell (k := 6) rfl
        simp only [List.getElem_toArray, List.getElem_cons_zero, List.getElem_cons_succ] at z0 z1 z2 z3 z4 z5 z6
        go_wp2
        go_roundg (n - (d + 1))
        case measure => omega
        case rel =>
          refine ⟨d + 1, by omega, rfl, ?_, ?_, ?_, ?_, ?_, ?_⟩
          · rw [HX.out]
            show _ = Value.int .i64 (((k + 1 : Nat)) : Int)
            first | go_num | (simp only [Nat.cast_add, Nat.cast_one]; go_num)
          · go_num
          · exact HBN.out
          · exact HB1.out
          · exact HG1.out
          · rw [HX.out]
            exact HR1.out
      | 6, _, hl, HSX, hbn, HK, HC, HQ =>
        obtain ⟨hdl, hok⟩ : d + 1 < n ∧ OkC p (k, c) := by
          rcases HK.out with ⟨-, h⟩ | h
          · exact absurd h (by decide)
          · exact h
        have HBN := hiddenC (hbn.out hdl)
        rw [← HSX.out] at HBN
        have HX : Hid (exeC p (d + 1) (0, fun _ => 0) = (k + 1, c)) := by
          have q := HSX.out
          rw [if_neg (by decide), if_neg (by decide)] at q
          exact q
        clear hok hl HSX hbn
        have r0 : wr.cell? ⟨ab, off + k * 3 + 0, none⟩ = some (.int .u8 6) := HC.out 0 _ rfl
        have r1 := HC.out 1 _ rfl
        have r2 := HC.out 2 _ rfl
        simp only [Nat.add_zero] at r0 r1 r2
        have b1 := (Below.refl wr.heap.size wr).alloc (Nat.le_refl _) (.cells #[.int .u8 6, .int .i64 a, .int .i64 b] 43)
        have HB1 := hiddenC (HB.out.trans (b1.mono HB.out.size))
        have HG1 := hiddenC (HG.out.below b1)
        have HR1 := hiddenC (HR.out.later b1)
        have g1 := blkA_new 43 wr #[.int .u8 6, .int .i64 a, .int .i64 b]
        go_upto_region 14 with fail
        generalize wr.alloc (.cells #[.int .u8 6, .int .i64 a, .int .i64 b] 43) = w3 at *
        obtain ⟨ob, hob⟩ : ∃ q, wr.heap.size = q := ⟨_, rfl⟩
        have HOB : Hid (ob ≠ g) := by
          have := (HR.out.lt _ rfl).2
          show _ ≠ _
          simp only at this
          omega
        rw [hob] at g1 ⊢
        have X0 := hiddenC (g1.cell (k := 0) rfl)
        have X1 := hiddenC (g1.cell (k := 1) rfl)
        have X2 := hiddenC (g1.cell (k := 2) rfl)
        simp only [List.getElem_toArray, List.getElem_cons_zero, List.getElem_cons_succ] at X0 X1 X2
        have x0 := X0.out
        have x1 := X1.out
        have x2 := X2.out
        clear b1 g1 hob z0 z1 z2 z3 z4 z5 z6 r0 r1 r2
        have z0 := HG1.out.cell (k := 0) rfl
        have z1 := HG1.out.cell (k := 1) rfl
        have z2 := HG1.out.cell (k := 2) rfl
        have z3 := HG1.out.cell (k := 3) rfl
        have z4 := HG1.out.cell (k := 4) rfl
        have z5 := HG1.out.cell (k := 5) rfl
        have z6 := HG1.out.cell (k := 6) rfl
        simp only [List.getElem_toArray, List.getElem_cons_zero, List.getElem_cons_succ] at z0 z1 z2 z3 z4 z5 z6
        go_wp2
        go_roundg (n - (d + 1))
        case measure => omega
        case rel =>
          refine ⟨d + 1, by omega, rfl, ?_, ?_, ?_, ?_, ?_, ?_⟩
          · rw [HX.out]
            show _ = Value.int .i64 (((k + 1 : Nat)) : Int)
            first | go_num | (simp only [Nat.cast_add, Nat.cast_one]; go_num)
          · go_num
          · exact HBN.out
          · exact HB1.out
          · exact HG1.out
          · rw [HX.out]
            exact HR1.out
      | 7, _, hl, HSX, hbn, HK, HC, HQ =>
        obtain ⟨hdl, hok⟩ : d + 1 < n ∧ OkC p (k, c) := by
          rcases HK.out with ⟨-, h⟩ | h
          · exact absurd h (by decide)
          · exact h
        have HBN := hiddenC (hbn.out hdl)
        rw [← HSX.out] at HBN
        have HX : Hid (exeC p (d + 1) (0, fun _ => 0) = (k + 1, c)) := by
          have q := HSX.out
          rw [if_neg (by decide), if_neg (by decide)] at q
          exact q
        clear hok hl HSX hbn
        have r0 : wr.cell? ⟨ab, off + k * 3 + 0, none⟩ = some (.int .u8 7) := HC.out 0 _ rfl
        have r1 := HC.out 1 _ rfl
        have r2 := HC.out 2 _ rfl
        simp only [Nat.add_zero] at r0 r1 r2
        have b1 := (Below.refl wr.heap.size wr).alloc (Nat.le_refl _) (.cells #[.int .u8 7, .int .i64 a, .int .i64 b] 43)
        have HB1 := hiddenC (HB.out.trans (b1.mono HB.out.size))
        have HG1 := hiddenC (HG.out.below b1)
        have HR1 := hiddenC (HR.out.later b1)
        have g1 := blkA_new 43 wr #[.int .u8 7, .int .i64 a, .int .i64 b]
        go_upto_region 14 with fail
        generalize wr.alloc (.cells #[.int .u8 7, .int .i64 a, .int .i64 b] 43) = w3 at *
        obtain ⟨ob, hob⟩ : ∃ q, wr.heap.size = q := ⟨_, rfl⟩
        have HOB : Hid (ob ≠ g) := by
          have := (HR.out.lt _ rfl).2
          show _ ≠ _
          simp only at this
          omega
        rw [hob] at g1 ⊢
        have X0 := hiddenC (g1.cell (k := 0) rfl)
        have X1 := hiddenC (g1.cell (k := 1) rfl)
        have X2 := hiddenC (g1.cell (k := 2) rfl)
        simp only [List.getElem_toArray, List.getElem_cons_zero, List.getElem_cons_succ] at X0 X1 X2
        have x0 := X0.out
        have x1 := X1.out
        have x2 := X2.out
        clear b1 g1 hob z0 z1 z2 z3 z4 z5 z6 r0 r1 r2
        have z0 := HG1.out.cell (k := 0) rfl
        have z1 := HG1.out.cell (k := 1) rfl
        have z2 := HG1.out.cell (k := 2) rfl
        have z3 := HG1.out.cell (k := 3) rfl
        have z4 := HG1.out.cell (k := 4) rfl
        have z5 := HG1.out.cell (k := 5) rfl
        have z6 := HG1.out.cell (k := 6) rfl
        simp only [List.getElem_toArray, List.getElem_cons_zero, List.getElem_cons_succ] at z0 z1 z2 z3 z4 z5 z6
        go_wp2
        go_roundg (n - (d + 1))
        case measure => omega
        case rel =>
          refine ⟨d + 1, by omega, rfl, ?_, ?_, ?_, ?_, ?_, ?_⟩
          · rw [HX.out]
            show _ = Value.int .i64 (((k + 1 : Nat)) : Int)
            first | go_num | (simp only [Nat.cast_add, Nat.cast_one]; go_num)
          · go_num
          · exact HBN.out
          · exact HB1.out
          · exact HG1.out
          · rw [HX.out]
            exact HR1.out
      | t + 8, h8, _, _, _, _, _, _ => exact absurd h8 (by omega)
  · have hcb : ((stepC codeS p).2 != 0) = true := by simpa using h0
    have hs := step_bad h0
    rw [hs] at SP
    generalize (stepC codeS p).2 = cd at *
    have B0 := hiddenC ((Below.refl W.heap.size W).alloc (Nat.le_refl _) (.cells #[.int .i64 p.mem, .int .i64 p.cnt, .int .i64 p.ins, .int .i64 p.outs, .slice aP nP cP, .slice aL nL cL, .slice aO nO cO] 26))
    have G0 := hiddenC (blkA_new 26 W #[.int .i64 p.mem, .int .i64 p.cnt, .int .i64 p.ins, .int .i64 p.outs, .slice aP nP cP, .slice aL nL cL, .slice aO nO cO])
    clear hnP hnL hnO hs
    go_enter Try.func5, Try.ntmps5
    go_upto_region 1 with fail
    generalize W.alloc (.cells #[.int .i64 p.mem, .int .i64 p.cnt, .int .i64 p.ins, .int .i64 p.outs, .slice aP nP cP, .slice aL nL cL, .slice aO nO cO] 26) = W1 at *
    have z0 := G0.out.cell (k := 0) rfl
    have z1 := G0.out.cell (k := 1) rfl
    have z2 := G0.out.cell (k := 2) rfl
    have z3 := G0.out.cell (k := 3) rfl
    have z4 := G0.out.cell (k := 4) rfl
    have z5 := G0.out.cell (k := 5) rfl
    have z6 := G0.out.cell (k := 6) rfl
    simp only [List.getElem_toArray, List.getElem_cons_zero, List.getElem_cons_succ] at z0 z1 z2 z3 z4 z5 z6
    go_wp2_with (first
      | (go_at_call 11; (with_reducible refine (SP.out _ B0.out).mono ?_); rintro e w2 ⟨rfl, q2⟩; have B2 := hiddenC (B0.out.trans (q2.mono B0.out.size)); clear q2)
      | (go_at_call 8; (with_reducible refine (AW.out _).mono ?_); rintro e w8 ⟨rfl, q2⟩; have B8 := hiddenC (B2.out.trans (q2.mono B2.out.size)); clear q2))
    rw [← HPE.out]
    exact ⟨rfl, B8.out⟩
end Go.Proofs.Ytdeeaokfljglkab

/- Texts of one chain, laid one behind the other. -/
import Derived.Test.YtdeeaokfljglkabPartCodeLines23
import Derived.Test.YtdeeaokfljglkabPartCodeLines6
import Derived.Deep.SlicePairs
import Derived.SizedLaws
namespace Go.Proofs.Ytdeeaokfljglkab
open Go.ChangeShapes Go.WideShapes Go.ChangeAt Go.RowKit
theorem Try.cellsYP : Try.prog.cellsOf 68 = 2 := by kernel_rfl
theorem Try.cellsYL : Try.prog.cellsOf 48 = 3 := by kernel_rfl
theorem Try.cellsYR : Try.prog.cellsOf 46 = 2 := by kernel_rfl
theorem Try.cellsYO : Try.prog.cellsOf 43 = 3 := by kernel_rfl
theorem Try.cellsYG : Try.prog.cellsOf 26 = 7 := by kernel_rfl
theorem Try.cellsSP : Try.prog.cellsOf 22 = 1 := by kernel_rfl
theorem Try.cellsSL : Try.prog.cellsOf 23 = 1 := by kernel_rfl
theorem Try.cellsSO : Try.prog.cellsOf 24 = 1 := by kernel_rfl
theorem Try.cellsSI : Try.prog.cellsOf 40 = 1 := by kernel_rfl
theorem Try.cellsTG : Try.prog.cellsOf 66 = 1 := by kernel_rfl
theorem Try.cellsTK : Try.prog.cellsOf 41 = 1 := by kernel_rfl
theorem Try.cells3G : Try.prog.cellsOf 3 = 1 := by kernel_rfl
theorem Try.bytesYP : Try.prog.bytesOf 68 = 32 := by kernel_rfl
theorem Try.bytesYL : Try.prog.bytesOf 48 = 40 := by kernel_rfl
theorem Try.bytesYO : Try.prog.bytesOf 43 = 24 := by kernel_rfl
theorem Try.bytes3G : Try.prog.bytesOf 3 = 8 := by kernel_rfl
theorem chooseG {α : Type} {n : Nat} {p : Nat → α → Prop} (d : α) (h : ∀ i, i < n → ∃ a, p i a) : ∃ f : Nat → α, ∀ i, i < n → p i (f i) :=
  ⟨fun i => if hi : i < n then (h i hi).choose else d, fun i hi => by simp only [hi, dif_pos]; exact (h i hi).choose_spec⟩
theorem off_noneG {W : World} {x : Addr} {v : Value} (h : W.cell? (x.add 0) = some v) : x.spot = none := by
  obtain ⟨b, off, sp⟩ := x
  cases sp with
  | none => rfl
  | some s => simp [World.cell?, Addr.add] at h; split at h <;> cases h
section
variable {H : Type} {enc : TypeId × Value → H} {W : World} {base : Nat} {held : Bool}
theorem wAll_memG {P : Program} {e : TypeId} {q : Nat → Bool} : ∀ {l : List (DataW H)} {d : DataW H}, d ∈ l → (DataW.weightsAll P e l).all q = true → (d.weights P e).all q = true
  | [], _, h, _ => by simp at h
  | d0 :: l, d, h, hw => by
    simp only [DataW.weightsAll, List.all_append, Bool.and_eq_true] at hw
    rcases List.mem_cons.1 h with rfl | h
    · exact hw.1
    · exact wAll_memG h hw.2
theorem numsG_open {n : Nat} {v : Value} {y : DataW H × List MemPlace} (h : DataW.trod enc Try.prog W base (fun _ => true) held n 40 [v] = some y) (hw : (y.1.weights Try.prog 40).all (· ≤ reachBytes) = true) :
    ∃ (ns : List Int) (x : Option Addr) (c : Nat), v = .slice x ns.length c ∧ Arg W x ns.length c ns := by
  rcases open_ints Try.underlying40 Try.underlying3 Try.cells3G h with ⟨h1, -⟩ | ⟨a, len, cap, zs, h1, -, hl, -, hz, hx, hc, hb⟩
  · simp only [List.cons.injEq, and_true] at h1
    subst h1
    exact ⟨[], none, 0, rfl, arg_nil⟩
  · simp only [List.cons.injEq, and_true] at h1
    subst h1
    simp only [if_true] at hz
    have hl2 : (zs.take len).length = len := by rw [List.length_take]; omega
    have hr : len * 8 ≤ 140737488351232 := by
      rw [hx] at hw
      simp only [DataW.weights, Try.underlying40, List.all_cons, Bool.and_eq_true, decide_eq_true_eq, Try.bytes3G] at hw
      have := hw.1
      simp only [reachBytes, lits, List.length_map, List.length_take, List.length_drop] at this
      omega
    refine ⟨zs.take len, some a, cap, by rw [hl2], ?_⟩
    rw [hl2]
    exact arg_mk hl hz hc hb hr
theorem sliceG_open {α : Type} (S T : TypeId) (c bt : Nat) (f : α → List Value) (hfl : ∀ x, (f x).length = c) (d0 : α) (hS : Try.prog.underlying S = some (.slice T)) (hc0 : 0 < c) (hc : Try.prog.cellsOf T = c) (hby : Try.prog.bytesOf T = bt) (P : α → Prop)
    (hel : ∀ {n : Nat} {cs : List Value} {y : DataW H × List MemPlace}, DataW.trod enc Try.prog W base (fun _ => true) held n T cs = some y → (y.1.weights Try.prog T).all (· ≤ reachBytes) = true → ∃ p, cs = f p ∧ P p)
    {n : Nat} {v : Value} {y : DataW H × List MemPlace} (h : DataW.trod enc Try.prog W base (fun _ => true) held n S [v] = some y) (hw : (y.1.weights Try.prog S).all (· ≤ reachBytes) = true) :
    ∃ (a : Option Addr) (cap : Nat) (L : List α), v = .slice a L.length cap ∧ (a = none → cap = 0) ∧ L.length * bt ≤ 140737488351232 ∧ (∀ p ∈ L, P p) ∧ (L = [] ∨ ∃ b off, a = some ⟨b, off, none⟩ ∧ ∀ k (hk : k < L.length), ∀ j u, (f L[k])[j]? = some u → W.cell? ⟨b, off + k * c + j, none⟩ = some u) := by
  rcases Deep.open_slice hS h with ⟨h1, -⟩ | ⟨x, len, cap, m, n, D, Pl, h1, -, hl, -, hm, hd, hx⟩
  · simp only [List.cons.injEq, and_true] at h1
    subst h1
    exact ⟨none, 0, [], rfl, fun _ => rfl, by simp, fun p hp => (by cases hp), .inl rfl⟩
  · simp only [List.cons.injEq, and_true] at h1
    subst h1
    simp only [if_true] at hm
    rw [hd] at hw
    simp only [DataW.weights, hS, List.all_cons, List.all_append, Bool.and_eq_true, decide_eq_true_eq, hby] at hw
    obtain ⟨wr, we, -⟩ := hw
    simp only [reachBytes, List.length_map, List.length_range] at wr
    have each : ∀ i, i < len → ∃ p : α, W.cells? base (x.add (i * c)) c = some (f p) ∧ P p := by
      intro i hi
      obtain ⟨cs', h1, h2⟩ := hx i (by omega)
      rw [hc] at h1
      obtain ⟨p, rfl, hp⟩ := hel h2 (wAll_memG (List.mem_map.2 ⟨i, List.mem_range.2 hi, rfl⟩) we)
      exact ⟨p, h1, hp⟩
    obtain ⟨q, hq⟩ := chooseG d0 each
    have hlen : ((List.range len).map q).length = len := by simp
    refine ⟨some x, cap, (List.range len).map q, by rw [hlen], (fun e => by cases e), ?_, fun p hp => ?_, ?_⟩
    · rw [hlen]
      have h2 : len * bt ≤ m * bt := Nat.mul_le_mul_right _ (by omega)
      have h3 : len * bt ≤ (len + (m - len)) * bt := Nat.mul_le_mul_right _ (Nat.le_add_right _ _)
      omega
    · obtain ⟨i, hi, rfl⟩ := List.mem_map.1 hp
      exact (hq i (List.mem_range.1 hi)).2
    · by_cases h0 : 0 < len
      · right
        have cell : ∀ i, i < len → ∀ j u, (f (q i))[j]? = some u → W.cell? ((x.add (i * c)).add j) = some u := fun i hi j u hu => by
          obtain ⟨_, hlen, hcc⟩ := World.cells?_some (hq i hi).1
          have hj : j < c := by
            have := (List.getElem?_eq_some_iff.1 hu).1
            rw [hfl] at this
            exact this
          rw [hcc j hj, hu]
        obtain ⟨u0, hu0⟩ : ∃ u, (f (q 0))[0]? = some u := ⟨_, List.getElem?_eq_getElem (by rw [hfl]; exact hc0)⟩
        have hs := off_noneG (W := W) (x := x.add (0 * c)) (cell 0 h0 0 u0 hu0)
        obtain ⟨b, off, sp⟩ := x
        rw [Nat.zero_mul] at hs
        have hs' : sp = none := by simpa [Addr.add] using hs
        subst hs'
        refine ⟨b, off, rfl, fun k hk j u hu => ?_⟩
        have hk' : k < len := by simpa using hk
        rw [List.getElem_map, List.getElem_range] at hu
        have cc := cell k hk' j u hu
        rw [Addr.add_lit, Addr.add_lit] at cc
        exact cc
      · left
        have e : len = 0 := by omega
        subst e
        rfl
def GoodP (W : World) (p : PrtC × (Option Addr × Nat)) : Prop := (p.1.tag < 256 ∧ ∀ z ∈ p.1.ps, IntOk z) ∧ At W p.2.1 p.1.ps
def GoodL (W : World) (p : LinC × (Option Addr × Nat)) : Prop := (∀ z ∈ p.1.start, IntOk z) ∧ p.1.base ≤ 9223372036854775807 ∧ At W p.2.1 p.1.start
theorem inR_ok {zs : List Int} (h : InR zs) : ∀ z ∈ zs, IntOk z := fun z hz => by
  obtain ⟨k, hk, e⟩ := List.mem_iff_getElem.1 hz
  have q := h k
  unfold nth at q
  rw [List.getD_eq_getElem?_getD, List.getElem?_eq_getElem hk, Option.getD_some, e] at q
  exact q
set_option maxRecDepth 100000 in
theorem partY_open {n : Nat} {cs : List Value} {y : DataW H × List MemPlace} (h : DataW.trod enc Try.prog W base (fun _ => true) held n 68 cs = some y) (hw : (y.1.weights Try.prog 68).all (· ≤ reachBytes) = true) :
    ∃ p : PrtC × (Option Addr × Nat), cs = prtV p ∧ GoodP W p := by
  obtain ⟨xs, k, hk, hxy, hcl, hxl, hf⟩ := DataW.trod_struct Try.underlying68 h
  rw [Try.cellsYP] at hcl
  match xs, hxl, cs, hcl with
  | [y0, y1], _, [v0, v1], _ =>
    have g0 := hf 0 _ rfl
    have g1 := hf 1 _ rfl
    simp [Try.cellsTG, Try.cellsSI] at g0 g1
    have hw1 : (y1.1.weights Try.prog 40).all (· ≤ reachBytes) = true := by
      rw [hxy] at hw
      simp only [DataW.weights, Try.underlying68] at hw
      rw [List.all_eq_true] at hw ⊢
      exact fun m hm => hw m (DataW.weights_mem_each (j := 1) (t := 40) (d := y1.1) rfl rfl m hm)
    obtain ⟨z0, q0, -, b0⟩ := DataW.trod_int Try.underlying66 g0
    obtain ⟨ns, x, c, q1, hA⟩ := numsG_open g1 hw1
    simp only [List.cons.injEq, and_true] at q0
    subst q0 q1
    have bd := bounds_u8 b0
    obtain ⟨tg, rfl⟩ : ∃ t : Nat, z0 = (t : Int) := ⟨z0.toNat, by omega⟩
    exact ⟨(⟨tg, ns⟩, (x, c)), rfl, ⟨by show tg < 256; omega, inR_ok hA.fits⟩, hA.lies⟩
set_option maxRecDepth 100000 in
theorem regY_open {n : Nat} {cs : List Value} {y : DataW H × List MemPlace} (h : DataW.trod enc Try.prog W base (fun _ => true) held n 46 cs = some y) :
    ∃ b s : Int, cs = [.int .i64 b, .int .i64 s] ∧ b ≤ 9223372036854775807 := by
  obtain ⟨xs, k, hk, hxy, hcl, hxl, hf⟩ := DataW.trod_struct Try.underlying46 h
  rw [Try.cellsYR] at hcl
  match xs, hxl, cs, hcl with
  | [y0, y1], _, [v0, v1], _ =>
    have g0 := hf 0 _ rfl
    have g1 := hf 1 _ rfl
    simp [Try.cells3G] at g0 g1
    obtain ⟨z0, q0, -, b0⟩ := DataW.trod_int Try.underlying3 g0
    obtain ⟨z1, q1, -, -⟩ := DataW.trod_int Try.underlying3 g1
    simp only [List.cons.injEq, and_true] at q0 q1
    subst q0 q1
    exact ⟨z0, z1, rfl, (bounds_i64 b0).2⟩
set_option maxRecDepth 100000 in
theorem lineY_open {n : Nat} {cs : List Value} {y : DataW H × List MemPlace} (h : DataW.trod enc Try.prog W base (fun _ => true) held n 48 cs = some y) (hw : (y.1.weights Try.prog 48).all (· ≤ reachBytes) = true) :
    ∃ p : LinC × (Option Addr × Nat), cs = linV p ∧ GoodL W p := by
  obtain ⟨xs, k, hk, hxy, hcl, hxl, hf⟩ := DataW.trod_struct Try.underlying48 h
  rw [Try.cellsYL] at hcl
  match xs, hxl, cs, hcl with
  | [y0, y1], _, [v0, v1, v2], _ =>
    have g0 := hf 0 _ rfl
    have g1 := hf 1 _ rfl
    simp [Try.cellsYR, Try.cellsSI] at g0 g1
    have hw1 : (y1.1.weights Try.prog 40).all (· ≤ reachBytes) = true := by
      rw [hxy] at hw
      simp only [DataW.weights, Try.underlying48] at hw
      rw [List.all_eq_true] at hw ⊢
      exact fun m hm => hw m (DataW.weights_mem_each (j := 1) (t := 40) (d := y1.1) rfl rfl m hm)
    obtain ⟨b, s, q0, hb⟩ := regY_open g0
    obtain ⟨ns, x, c, q1, hA⟩ := numsG_open g1 hw1
    simp only [List.cons.injEq, and_true] at q0
    obtain ⟨rfl, rfl⟩ := q0
    subst q1
    exact ⟨(⟨b, s, ns⟩, (x, c)), rfl, inR_ok hA.fits, hb, hA.lies⟩
set_option maxRecDepth 100000 in
theorem opY_open {n : Nat} {cs : List Value} {y : DataW H × List MemPlace} (h : DataW.trod enc Try.prog W base (fun _ => true) held n 43 cs = some y) :
    ∃ p : OpC, cs = opV p ∧ True := by
  obtain ⟨xs, k, hk, hxy, hcl, hxl, hf⟩ := DataW.trod_struct Try.underlying43 h
  rw [Try.cellsYO] at hcl
  match xs, hxl, cs, hcl with
  | [y0, y1, y2], _, [v0, v1, v2], _ =>
    have g0 := hf 0 _ rfl
    have g1 := hf 1 _ rfl
    have g2 := hf 2 _ rfl
    simp [Try.cellsTK, Try.cells3G] at g0 g1 g2
    obtain ⟨z0, q0, -, b0⟩ := DataW.trod_int Try.underlying41 g0
    obtain ⟨z1, q1, -, -⟩ := DataW.trod_int Try.underlying3 g1
    obtain ⟨z2, q2, -, -⟩ := DataW.trod_int Try.underlying3 g2
    simp only [List.cons.injEq, and_true] at q0 q1 q2
    subst q0 q1 q2
    have bd := bounds_u8 b0
    obtain ⟨tg, rfl⟩ : ∃ t : Nat, z0 = (t : Int) := ⟨z0.toNat, by omega⟩
    exact ⟨⟨tg, z1, z2⟩, rfl, trivial⟩
theorem atV_of {α : Type} {f : α → List Value} {c : Nat} {a : Option Addr} {L : List α} (h : L = [] ∨ ∃ b off, a = some ⟨b, off, none⟩ ∧ ∀ k (hk : k < L.length), ∀ j u, (f L[k])[j]? = some u → W.cell? ⟨b, off + k * c + j, none⟩ = some u) : AtV f c W a L := by
  rcases h with h | ⟨b, off, e, h⟩
  · exact .inl h
  · refine .inr ⟨b, off, e, fun k x hx j u hu => ?_⟩
    obtain ⟨hk, rfl⟩ := List.getElem?_eq_some_iff.1 hx
    exact h k hk j u hu
set_option maxRecDepth 100000 in
theorem program_open {r : Reach} {b0 : Nat} {v : Value} {d : DataW H} {p : List MemPlace} (hv : Value.okWide Try.prog W r b0 26 v) (h : DataW.Trod enc Try.prog W base (fun _ => true) held 26 v d p) (hw : (d.weights Try.prog 26).all (· ≤ reachBytes) = true) :
    ∃ (g : PrgC) (a1 : Option Addr) (c1 : Nat) (a2 : Option Addr) (c2 : Nat) (a3 : Option Addr) (c3 : Nat) (LP : List (PrtC × (Option Addr × Nat))) (LL : List (LinC × (Option Addr × Nat))), v = prgV g a1 c1 a2 c2 a3 c3 ∧ PrgL W g a1 a2 a3 LP LL ∧ FitP g := by
  obtain ⟨cs, rfl, hsz⟩ := okWide_struct Try.underlying26 hv
  rw [Try.cellsYG] at hsz
  obtain ⟨fuel, hf⟩ := h
  obtain ⟨xs, k, hk, hxy, hcl, hxl, hf⟩ := DataW.trod_struct Try.underlying26 hf
  obtain ⟨l⟩ := cs
  match xs, hxl, l, hsz with
  | [y0, y1, y2, y3, y4, y5, y6], _, [v0, v1, v2, v3, v4, v5, v6], _ =>
    have g0 := hf 0 _ rfl
    have g1 := hf 1 _ rfl
    have g2 := hf 2 _ rfl
    have g3 := hf 3 _ rfl
    have g4 := hf 4 _ rfl
    have g5 := hf 5 _ rfl
    have g6 := hf 6 _ rfl
    simp [Value.cells, Try.cells3G, Try.cellsSP, Try.cellsSL, Try.cellsSO] at g0 g1 g2 g3 g4 g5 g6
    have hd := congrArg Prod.fst hxy
    simp only at hd
    rw [hd] at hw
    simp only [DataW.weights, Try.underlying26] at hw
    rw [List.all_eq_true] at hw
    have w4 : (y4.1.weights Try.prog 22).all (· ≤ reachBytes) = true := by rw [List.all_eq_true]; exact fun m hm => hw m (DataW.weights_mem_each (j := 4) (t := 22) (d := y4.1) rfl rfl m hm)
    have w5 : (y5.1.weights Try.prog 23).all (· ≤ reachBytes) = true := by rw [List.all_eq_true]; exact fun m hm => hw m (DataW.weights_mem_each (j := 5) (t := 23) (d := y5.1) rfl rfl m hm)
    have w6 : (y6.1.weights Try.prog 24).all (· ≤ reachBytes) = true := by rw [List.all_eq_true]; exact fun m hm => hw m (DataW.weights_mem_each (j := 6) (t := 24) (d := y6.1) rfl rfl m hm)
    obtain ⟨z0, q0, -, -⟩ := DataW.trod_int Try.underlying3 g0
    obtain ⟨z1, q1, -, -⟩ := DataW.trod_int Try.underlying3 g1
    obtain ⟨z2, q2, -, -⟩ := DataW.trod_int Try.underlying3 g2
    obtain ⟨z3, q3, -, -⟩ := DataW.trod_int Try.underlying3 g3
    simp only [List.cons.injEq, and_true] at q0 q1 q2 q3
    subst q0 q1 q2 q3
    obtain ⟨a1, c1, As, rfl, -, -, p1, r1⟩ := sliceG_open 22 68 2 32 prtV prtV_len (⟨0, []⟩, (none, 0)) Try.underlying22 (by decide) Try.cellsYP Try.bytesYP (GoodP W) (fun h hw => partY_open h hw) g4 w4
    obtain ⟨a2, c2, Es, rfl, -, -, p2, r2⟩ := sliceG_open 23 48 3 40 linV linV_len (⟨0, 0, []⟩, (none, 0)) Try.underlying23 (by decide) Try.cellsYL Try.bytesYL (GoodL W) (fun h hw => lineY_open h hw) g5 w5
    obtain ⟨a3, c3, Os, rfl, -, -, -, r3⟩ := sliceG_open 24 43 3 24 opV opV_len ⟨0, 0, 0⟩ Try.underlying24 (by decide) Try.cellsYO Try.bytesYO (fun _ => True) (fun h _ => opY_open h) g6 w6
    refine ⟨⟨z0, z1, z2, z3, As.map Prod.fst, Es.map Prod.fst, Os⟩, a1, c1, a2, c2, a3, c3, As, Es, by unfold prgV; simp only [List.length_map], ⟨rfl, atV_of r1, fun x hx => (p1 x hx).2, rfl, atV_of r2, fun x hx => (p2 x hx).2.2, atV_of r3⟩, ⟨⟨fun q hq => ?_, fun q hq => ?_⟩, fun q hq => ?_⟩⟩
    · obtain ⟨x, hx, rfl⟩ := List.mem_map.1 hq
      exact (p1 x hx).1
    · obtain ⟨x, hx, rfl⟩ := List.mem_map.1 hq
      exact (p2 x hx).1
    · obtain ⟨x, hx, rfl⟩ := List.mem_map.1 hq
      exact (p2 x hx).2.1
end
theorem fine_op {p : PrgC} (h : (stepC codeS p).2 = 0) {k : Nat} {q : OpC} (hk : p.ops[k]? = some q) : letsC p q = true ∧ (q.kind = 0 ↔ k + 1 = p.ops.length) := by
  obtain ⟨-, -, -, -, h5⟩ := step_zero h
  obtain ⟨h1, h2, -, -⟩ := along_zero h5
  obtain ⟨hlt, e⟩ := List.getElem?_eq_some_iff.1 hk
  have en : nthO p.ops k = q := by unfold nthO; rw [List.getD_eq_getElem?_getD, hk]; rfl
  have hm := (run_step h1 hlt).1
  rw [en] at hm
  obtain ⟨m1, m2⟩ := may_lets hm
  refine ⟨m1, m2, fun e1 => ?_⟩
  obtain ⟨-, l2⟩ := last_iff h2
  rw [← e1, Nat.add_sub_cancel, en] at l2
  exact l2
theorem op_kind {p : PrgC} {q : OpC} (h : letsC p q = true) : q.kind < 8 := by
  unfold letsC at h
  split at h <;> first | omega | cases h
set_option maxRecDepth 100000 in
set_option maxHeartbeats 16000000 in
theorem codeLines_walk (p : PrgC) (aP : Option Addr) (cP : Nat) (aL : Option Addr) (cL : Nat) (aO : Option Addr) (cO : Nat) (LP : List (PrtC × (Option Addr × Nat))) (LL : List (LinC × (Option Addr × Nat))) (W : World) (hL : PrgL W p aP aL aO LP LL) (hF : FitP p) :
    Calls Try.prog 6 #[prgV p aP cP aL cL aO cO] W fun e w' => e = .returned (.bool true) ∧ Below W.heap.size W w' := by
  obtain ⟨PE, hPE⟩ : ∃ Q : Ending → World → Prop, (fun e w' => e = .returned (.bool true) ∧ Below W.heap.size W w') = Q := ⟨_, rfl⟩
  rw [hPE]
  have HPE := hiddenC hPE
  have HL := hiddenC hL
  have AW := hiddenC awake20
  have CK : Hid (∀ U, Below W.heap.size W U → Calls Try.prog 10 #[prgV p aP cP aL cL aO cO] U fun e w' => e = .returned (.int .i64 (stepC codeS p).2) ∧ Below U.heap.size U w') := fun U hb => checkC_any p aP cP aL cL aO cO LP LL U (hL.below hb) hF
  have LLe : Hid (LL.length = p.lines.length) := hL.lenL
  have LI : Hid (∀ x ∈ LL, x.1 ∈ p.lines) := fun x hx => by rw [← hL.le]; exact List.mem_map_of_mem hx
  have FO := hiddenC (fun h => @fine_op p h)
  have ST := hiddenC (fun h => @step_zero codeS p h)
  have B0 := hiddenC ((Below.refl W.heap.size W).alloc (Nat.le_refl _) (.cells #[.int .i64 p.mem, .int .i64 p.cnt, .int .i64 p.ins, .int .i64 p.outs, .slice aP p.parts.length cP, .slice aL p.lines.length cL, .slice aO p.ops.length cO] 26))
  have G0 := hiddenC (blkA_new 26 W #[.int .i64 p.mem, .int .i64 p.cnt, .int .i64 p.ins, .int .i64 p.outs, .slice aP p.parts.length cP, .slice aL p.lines.length cL, .slice aO p.ops.length cO])
  obtain ⟨nP, hnP⟩ : ∃ n, p.parts.length = n := ⟨_, rfl⟩
  obtain ⟨nL, hnL⟩ : ∃ n, p.lines.length = n := ⟨_, rfl⟩
  obtain ⟨nO, hnO⟩ : ∃ n, p.ops.length = n := ⟨_, rfl⟩
  have HNP := hiddenC hnP
  have HNL := hiddenC hnL
  have HNO := hiddenC hnO
  unfold prgV at CK ⊢
  rw [hnP, hnL, hnO] at CK B0 G0 ⊢
  rw [hnL] at LLe
  clear hPE hL hF hnP hnL hnO
  by_cases h0 : (stepC codeS p).2 = 0
  · rw [h0] at CK
    have FO1 := hiddenC (fun k q => FO.out h0 (k := k) (q := q))
    obtain ⟨t1, t2, t3, -, h5⟩ := ST.out h0
    obtain ⟨⟨m0, m1⟩, -, -, -, m5, m6, m7⟩ := lim_zero t1
    rw [HNL.out] at m6
    rw [HNO.out] at m7
    rw [HNP.out] at m5
    have hO0 : 0 < nO := by
      have q := (done_all h5).2.1
      rw [HNO.out] at q
      exact q
    have LZ := hiddenC (lines_zero t3)
    clear FO ST t1 t2 t3 h5 h0
    go_enter Try.func6, Try.ntmps6
    go_upto_region 1 with fail
    generalize W.alloc (.cells #[.int .i64 p.mem, .int .i64 p.cnt, .int .i64 p.ins, .int .i64 p.outs, .slice aP nP cP, .slice aL nL cL, .slice aO nO cO] 26) = W1 at *
    have z0 := G0.out.cell (k := 0) rfl
    have z1 := G0.out.cell (k := 1) rfl
    have z2 := G0.out.cell (k := 2) rfl
    have z3 := G0.out.cell (k := 3) rfl
    have z4 := G0.out.cell (k := 4) rfl
    have z5 := G0.out.cell (k := 5) rfl
    have z6 := G0.out.cell (k := 6) rfl
    simp only [List.getElem_toArray, List.getElem_cons_zero, List.getElem_cons_succ] at z0 z1 z2 z3 z4 z5 z6
    go_upto_region 3 with (go_at_call 10; (with_reducible refine (CK.out _ B0.out).mono ?_); rintro e w2 ⟨rfl, q2⟩; have B2 := hiddenC (B0.out.trans (q2.mono B0.out.size)); have G2 := hiddenC (G0.out.below q2); clear q2)
    go_wp2
    clear z0 z1 z2 z3 z4 z5 z6 G0 B0 CK
    go_loopg [3] nL (fun gk u wr => ∃ k : Nat, k ≤ nL ∧ gk = nL - k ∧ u = .int .i64 (k : Int) ∧ Below W.heap.size W wr ∧ BlkA 26 W.heap.size wr #[.int .i64 p.mem, .int .i64 p.cnt, .int .i64 p.ins, .int .i64 p.outs, .slice aP nP cP, .slice aL nL cL, .slice aO nO cO])
    case atStart => exact ⟨0, Nat.zero_le _, rfl, rfl, B2.out, G2.out⟩
    case round =>
      obtain ⟨k, hk, rfl, rfl, hb, hg⟩ := hrel
      have HB := hiddenC hb
      have HG := hiddenC hg
      clear hb hg B2 G2
      have z0 := HG.out.cell (k := 0) rfl
      have z1 := HG.out.cell (k := 1) rfl
      have z2 := HG.out.cell (k := 2) rfl
      have z3 := HG.out.cell (k := 3) rfl
      have z4 := HG.out.cell (k := 4) rfl
      have z5 := HG.out.cell (k := 5) rfl
      have z6 := HG.out.cell (k := 6) rfl
      simp only [List.getElem_toArray, List.getElem_cons_zero, List.getElem_cons_succ] at z0 z1 z2 z3 z4 z5 z6
      by_cases hlt : k < nL
      · have hki : (k : Int) < (nL : Int) := by omega
        have hkL : k < LL.length := by rw [LLe.out]; exact hlt
        rcases HL.out.la.below HB.out with e1 | ⟨ab, off, rfl, hc⟩
        · rw [e1] at hkL; exact absurd hkL (Nat.not_lt_zero _)
        have hg : LL[k]? = some LL[k] := List.getElem?_eq_getElem hkL
        obtain ⟨⟨i1, i2, i3⟩, i4⟩ := LZ.out _ (LI.out _ (List.getElem_mem hkL))
        have c0 := hc k _ hg 0 _ rfl
        have c1 := hc k _ hg 1 _ rfl
        have c2 := hc k _ hg 2 _ rfl
        generalize LL[k] = x at *
        obtain ⟨⟨ba, sz, zs⟩, y, yc⟩ := x
        simp only [Nat.add_zero] at c0 c1 c2 i1 i2 i3 i4
        generalize zs.length = ns at *
        have hw : IntKind.i64.wrap (ba + sz) = ba + sz := by rw [IntKind.wrap_i64]; omega
        have n1 : ¬ ba < 0 := by omega
        have n2 : ¬ sz < (ns : Int) := by omega
        have n3 : ¬ ba + sz > p.mem := by omega
        have n4 : ¬ ba + sz < ba := by omega
        clear hc hg i1 i2 i3 i4 hkL
        have b1 := (Below.refl wr.heap.size wr).alloc (Nat.le_refl _) (.cells #[.int .i64 ba, .int .i64 sz] 46)
        have HB1 := hiddenC (HB.out.trans (b1.mono HB.out.size))
        have HG1 := hiddenC (HG.out.below b1)
        have g1 := blkA_new 46 wr #[.int .i64 ba, .int .i64 sz]
        have d2 := cellC_later b1 c2
        go_upto_region 7 with fail
        generalize wr.alloc (.cells #[.int .i64 ba, .int .i64 sz] 46) = w3 at *
        have r0 := g1.cell (k := 0) rfl
        have r1 := g1.cell (k := 1) rfl
        simp only [List.getElem_toArray, List.getElem_cons_zero, List.getElem_cons_succ] at r0 r1
        clear b1 g1 z0 z1 z2 z3 z4 z5 z6 c0 c1 c2
        have z0 := HG1.out.cell (k := 0) rfl
        have z1 := HG1.out.cell (k := 1) rfl
        have z2 := HG1.out.cell (k := 2) rfl
        have z3 := HG1.out.cell (k := 3) rfl
        have z4 := HG1.out.cell (k := 4) rfl
        have z5 := HG1.out.cell (k := 5) rfl
        have z6 := HG1.out.cell (k := 6) rfl
        simp only [List.getElem_toArray, List.getElem_cons_zero, List.getElem_cons_succ] at z0 z1 z2 z3 z4 z5 z6
        go_quiet (fail)
        go_wp2
        go_roundg (nL - (k + 1))
        case measure => omega
        case rel => exact ⟨k + 1, by omega, rfl, by go_num, drewX HB1.out _, HG1.out.below (drewX (Below.refl _ _) _)⟩
      · have hki : ¬ (k : Int) < (nL : Int) := by omega
        go_upto_region 9 with fail
        go_wp2
        clear z0 z1 z2 z3 z4 z5 z6
        have HB2 := hiddenC HB.out
        have HG2 := hiddenC HG.out
        clear HB HG
        go_loopg [5] nO (fun gk u wr => ∃ k : Nat, k ≤ nO ∧ gk = nO - k ∧ u = .int .i64 (k : Int) ∧ Below W.heap.size W wr ∧ BlkA 26 W.heap.size wr #[.int .i64 p.mem, .int .i64 p.cnt, .int .i64 p.ins, .int .i64 p.outs, .slice aP nP cP, .slice aL nL cL, .slice aO nO cO])
        case atStart => exact ⟨0, Nat.zero_le _, rfl, rfl, HB2.out, HG2.out⟩
        case round =>
          obtain ⟨k, hk, rfl, rfl, hb, hg⟩ := hrel
          have HB := hiddenC hb
          have HG := hiddenC hg
          clear hb hg HB2 HG2
          have z0 := HG.out.cell (k := 0) rfl
          have z1 := HG.out.cell (k := 1) rfl
          have z2 := HG.out.cell (k := 2) rfl
          have z3 := HG.out.cell (k := 3) rfl
          have z4 := HG.out.cell (k := 4) rfl
          have z5 := HG.out.cell (k := 5) rfl
          have z6 := HG.out.cell (k := 6) rfl
          simp only [List.getElem_toArray, List.getElem_cons_zero, List.getElem_cons_succ] at z0 z1 z2 z3 z4 z5 z6
          by_cases hlt : k < nO
          · have hki : (k : Int) < (nO : Int) := by omega
            have hkL : k < p.ops.length := by rw [HNO.out]; exact hlt
            rcases HL.out.oa.below HB.out with e1 | ⟨ab, off, rfl, hc⟩
            · rw [e1] at hkL; exact absurd hkL (Nat.not_lt_zero _)
            have hg : p.ops[k]? = some p.ops[k] := List.getElem?_eq_getElem hkL
            obtain ⟨hl, hend⟩ := FO1.out k _ hg
            have hwn : IntKind.i64.wrap ((nO : Int) - 1) = (nO : Int) - 1 := by rw [IntKind.wrap_i64]; omega
            have h8 := op_kind hl
            rw [HNO.out] at hend
            unfold letsC at hl
            rw [HNO.out, HNL.out, HNP.out] at hl
            generalize p.ops[k] = q at *
            obtain ⟨t, a, b⟩ := q
            simp only at hl hend h8
            have HC := hiddenC hc
            clear hc hkL
            match t, h8, hg, hl, hend with
            | 0, _, hg, hl, hend =>
              have r0 : wr.cell? ⟨ab, off + k * 3 + 0, none⟩ = some (.int .u8 0) := HC.out k _ hg 0 _ rfl
              have r1 := HC.out k _ hg 1 _ rfl
              have r2 := HC.out k _ hg 2 _ rfl
              simp only [Nat.add_zero] at r0 r1 r2
              simp only [Bool.and_eq_true, decide_eq_true_iff] at hl
              obtain ⟨rfl, rfl⟩ := hl
              have HKN : Hid (nO = k + 1) := (hend.1 rfl).symm
              clear hl hend hg HC
              have b1 := (Below.refl wr.heap.size wr).alloc (Nat.le_refl _) (.cells #[.int .u8 0, .int .i64 0, .int .i64 0] 43)
              have HB1 := hiddenC (HB.out.trans (b1.mono HB.out.size))
              have HG1 := hiddenC (HG.out.below b1)
              have g1 := blkA_new 43 wr #[.int .u8 0, .int .i64 0, .int .i64 0]
              go_upto_region 13 with fail
              generalize wr.alloc (.cells #[.int .u8 0, .int .i64 0, .int .i64 0] 43) = w3 at *
              have s0 := g1.cell (k := 0) rfl
              have s1 := g1.cell (k := 1) rfl
              have s2 := g1.cell (k := 2) rfl
              simp only [List.getElem_toArray, List.getElem_cons_zero, List.getElem_cons_succ] at s0 s1 s2
              clear b1 g1 z0 z1 z2 z3 z4 z5 z6 r0 r1 r2
              have z0 := HG1.out.cell (k := 0) rfl
              have z1 := HG1.out.cell (k := 1) rfl
              have z2 := HG1.out.cell (k := 2) rfl
              have z3 := HG1.out.cell (k := 3) rfl
              have z4 := HG1.out.cell (k := 4) rfl
              have z5 := HG1.out.cell (k := 5) rfl
              have z6 := HG1.out.cell (k := 6) rfl
              simp only [List.getElem_toArray, List.getElem_cons_zero, List.getElem_cons_succ] at z0 z1 z2 z3 z4 z5 z6
              obtain rfl := HKN.out
              have hwk : IntKind.i64.wrap (k : Int) = (k : Int) := by rw [IntKind.wrap_i64]; omega
              go_wp2
              go_roundg 0
              case measure => omega
              case rel => exact ⟨k + 1, by omega, by omega, by go_num, HB1.out, HG1.out⟩
            | 1, _, hg, hl, hend =>
              have r0 : wr.cell? ⟨ab, off + k * 3 + 0, none⟩ = some (.int .u8 1) := HC.out k _ hg 0 _ rfl
              have r1 := HC.out k _ hg 1 _ rfl
              have r2 := HC.out k _ hg 2 _ rfl
              simp only [Nat.add_zero] at r0 r1 r2
              simp only [Bool.and_eq_true, naC_iff, wiC_iff] at hl
              have n1 : ¬ a < 0 := by omega
              have n2 : ¬ a ≥ p.cnt := by omega
              have n3 : ¬ b < 0 := by omega
              have hkn : ¬ (k : Int) = (nO : Int) - 1 := fun e => by have := hend.2 (by omega); omega
              have hkb : ((k : Int) == (nO : Int) - 1) = false := by simpa using hkn
              clear hl hend hg HC
              have b1 := (Below.refl wr.heap.size wr).alloc (Nat.le_refl _) (.cells #[.int .u8 1, .int .i64 a, .int .i64 b] 43)
              have HB1 := hiddenC (HB.out.trans (b1.mono HB.out.size))
              have HG1 := hiddenC (HG.out.below b1)
              have g1 := blkA_new 43 wr #[.int .u8 1, .int .i64 a, .int .i64 b]
              go_upto_region 13 with fail
              generalize wr.alloc (.cells #[.int .u8 1, .int .i64 a, .int .i64 b] 43) = w3 at *
              have s0 := g1.cell (k := 0) rfl
              have s1 := g1.cell (k := 1) rfl
              have s2 := g1.cell (k := 2) rfl
              simp only [List.getElem_toArray, List.getElem_cons_zero, List.getElem_cons_succ] at s0 s1 s2
              clear b1 g1 z0 z1 z2 z3 z4 z5 z6 r0 r1 r2
              have z0 := HG1.out.cell (k := 0) rfl
              have z1 := HG1.out.cell (k := 1) rfl
              have z2 := HG1.out.cell (k := 2) rfl
              have z3 := HG1.out.cell (k := 3) rfl
              have z4 := HG1.out.cell (k := 4) rfl
              have z5 := HG1.out.cell (k := 5) rfl
              have z6 := HG1.out.cell (k := 6) rfl
              simp only [List.getElem_toArray, List.getElem_cons_zero, List.getElem_cons_succ] at z0 z1 z2 z3 z4 z5 z6
              go_wp2
              go_roundg (nO - (k + 1))
              case measure => omega
              case rel => exact ⟨k + 1, by omega, rfl, by go_num, HB1.out, HG1.out⟩
            | 2, _, hg, hl, hend =>
              have r0 : wr.cell? ⟨ab, off + k * 3 + 0, none⟩ = some (.int .u8 2) := HC.out k _ hg 0 _ rfl
              have r1 := HC.out k _ hg 1 _ rfl
              have r2 := HC.out k _ hg 2 _ rfl
              simp only [Nat.add_zero] at r0 r1 r2
              simp only [Bool.and_eq_true, naC_iff] at hl
              have n1 : ¬ a < 0 := by omega
              have n2 : ¬ a ≥ p.cnt := by omega
              have n3 : ¬ b < 0 := by omega
              have hkn : ¬ (k : Int) = (nO : Int) - 1 := fun e => by have := hend.2 (by omega); omega
              have hkb : ((k : Int) == (nO : Int) - 1) = false := by simpa using hkn
              clear hl hend hg HC
              have b1 := (Below.refl wr.heap.size wr).alloc (Nat.le_refl _) (.cells #[.int .u8 2, .int .i64 a, .int .i64 b] 43)
              have HB1 := hiddenC (HB.out.trans (b1.mono HB.out.size))
              have HG1 := hiddenC (HG.out.below b1)
              have g1 := blkA_new 43 wr #[.int .u8 2, .int .i64 a, .int .i64 b]
              go_upto_region 13 with fail
              generalize wr.alloc (.cells #[.int .u8 2, .int .i64 a, .int .i64 b] 43) = w3 at *
              have s0 := g1.cell (k := 0) rfl
              have s1 := g1.cell (k := 1) rfl
              have s2 := g1.cell (k := 2) rfl
              simp only [List.getElem_toArray, List.getElem_cons_zero, List.getElem_cons_succ] at s0 s1 s2
              clear b1 g1 z0 z1 z2 z3 z4 z5 z6 r0 r1 r2
              have z0 := HG1.out.cell (k := 0) rfl
              have z1 := HG1.out.cell (k := 1) rfl
              have z2 := HG1.out.cell (k := 2) rfl
              have z3 := HG1.out.cell (k := 3) rfl
              have z4 := HG1.out.cell (k := 4) rfl
              have z5 := HG1.out.cell (k := 5) rfl
              have z6 := HG1.out.cell (k := 6) rfl
              simp only [List.getElem_toArray, List.getElem_cons_zero, List.getElem_cons_succ] at z0 z1 z2 z3 z4 z5 z6
              go_wp2
              go_roundg (nO - (k + 1))
              case measure => omega
              case rel => exact ⟨k + 1, by omega, rfl, by go_num, HB1.out, HG1.out⟩
            | 3, _, hg, hl, hend =>
              have r0 : wr.cell? ⟨ab, off + k * 3 + 0, none⟩ = some (.int .u8 3) := HC.out k _ hg 0 _ rfl
              have r1 := HC.out k _ hg 1 _ rfl
              have r2 := HC.out k _ hg 2 _ rfl
              simp only [Nat.add_zero] at r0 r1 r2
              simp only [Bool.and_eq_true, naC_iff, wiC_iff] at hl
              have n1 : ¬ a < 0 := by omega
              have n2 : ¬ a ≥ (nL : Int) := by omega
              have n3 : ¬ b < 0 := by omega
              have hkn : ¬ (k : Int) = (nO : Int) - 1 := fun e => by have := hend.2 (by omega); omega
              have hkb : ((k : Int) == (nO : Int) - 1) = false := by simpa using hkn
              clear hl hend hg HC
              have b1 := (Below.refl wr.heap.size wr).alloc (Nat.le_refl _) (.cells #[.int .u8 3, .int .i64 a, .int .i64 b] 43)
              have HB1 := hiddenC (HB.out.trans (b1.mono HB.out.size))
              have HG1 := hiddenC (HG.out.below b1)
              have g1 := blkA_new 43 wr #[.int .u8 3, .int .i64 a, .int .i64 b]
              go_upto_region 13 with fail
              generalize wr.alloc (.cells #[.int .u8 3, .int .i64 a, .int .i64 b] 43) = w3 at *
              have s0 := g1.cell (k := 0) rfl
              have s1 := g1.cell (k := 1) rfl
              have s2 := g1.cell (k := 2) rfl
              simp only [List.getElem_toArray, List.getElem_cons_zero, List.getElem_cons_succ] at s0 s1 s2
              clear b1 g1 z0 z1 z2 z3 z4 z5 z6 r0 r1 r2
              have z0 := HG1.out.cell (k := 0) rfl
              have z1 := HG1.out.cell (k := 1) rfl
              have z2 := HG1.out.cell (k := 2) rfl
              have z3 := HG1.out.cell (k := 3) rfl
              have z4 := HG1.out.cell (k := 4) rfl
              have z5 := HG1.out.cell (k := 5) rfl
              have z6 := HG1.out.cell (k := 6) rfl
              simp only [List.getElem_toArray, List.getElem_cons_zero, List.getElem_cons_succ] at z0 z1 z2 z3 z4 z5 z6
              go_wp2
              go_roundg (nO - (k + 1))
              case measure => omega
              case rel => exact ⟨k + 1, by omega, rfl, by go_num, HB1.out, HG1.out⟩
            | 4, _, hg, hl, hend =>
              have r0 : wr.cell? ⟨ab, off + k * 3 + 0, none⟩ = some (.int .u8 4) := HC.out k _ hg 0 _ rfl
              have r1 := HC.out k _ hg 1 _ rfl
              have r2 := HC.out k _ hg 2 _ rfl
              simp only [Nat.add_zero] at r0 r1 r2
              simp only [Bool.and_eq_true, naC_iff, wiC_iff] at hl
              have n1 : ¬ a < 0 := by omega
              have n2 : ¬ a ≥ p.ins := by omega
              have n3 : ¬ b < 0 := by omega
              have hkn : ¬ (k : Int) = (nO : Int) - 1 := fun e => by have := hend.2 (by omega); omega
              have hkb : ((k : Int) == (nO : Int) - 1) = false := by simpa using hkn
              clear hl hend hg HC
              have b1 := (Below.refl wr.heap.size wr).alloc (Nat.le_refl _) (.cells #[.int .u8 4, .int .i64 a, .int .i64 b] 43)
              have HB1 := hiddenC (HB.out.trans (b1.mono HB.out.size))
              have HG1 := hiddenC (HG.out.below b1)
              have g1 := blkA_new 43 wr #[.int .u8 4, .int .i64 a, .int .i64 b]
              go_upto_region 13 with fail
              generalize wr.alloc (.cells #[.int .u8 4, .int .i64 a, .int .i64 b] 43) = w3 at *
              have s0 := g1.cell (k := 0) rfl
              have s1 := g1.cell (k := 1) rfl
              have s2 := g1.cell (k := 2) rfl
              simp only [List.getElem_toArray, List.getElem_cons_zero, List.getElem_cons_succ] at s0 s1 s2
              clear b1 g1 z0 z1 z2 z3 z4 z5 z6 r0 r1 r2
              have z0 := HG1.out.cell (k := 0) rfl
              have z1 := HG1.out.cell (k := 1) rfl
              have z2 := HG1.out.cell (k := 2) rfl
              have z3 := HG1.out.cell (k := 3) rfl
              have z4 := HG1.out.cell (k := 4) rfl
              have z5 := HG1.out.cell (k := 5) rfl
              have z6 := HG1.out.cell (k := 6) rfl
              simp only [List.getElem_toArray, List.getElem_cons_zero, List.getElem_cons_succ] at z0 z1 z2 z3 z4 z5 z6
              go_wp2
              go_roundg (nO - (k + 1))
              case measure => omega
              case rel => exact ⟨k + 1, by omega, rfl, by go_num, HB1.out, HG1.out⟩
            | 5, _, hg, hl, hend =>
              have r0 : wr.cell? ⟨ab, off + k * 3 + 0, none⟩ = some (.int .u8 5) := HC.out k _ hg 0 _ rfl
              have r1 := HC.out k _ hg 1 _ rfl
              have r2 := HC.out k _ hg 2 _ rfl
              simp only [Nat.add_zero] at r0 r1 r2
              simp only [Bool.and_eq_true, decide_eq_true_iff, naC_iff] at hl
              have n1 : ¬ a < 0 := by omega
              have n2 : ¬ a ≥ (nP : Int) := by omega
              have n3 : ¬ b < 0 := by omega
              have hkn : ¬ (k : Int) = (nO : Int) - 1 := fun e => by have := hend.2 (by omega); omega
              have hkb : ((k : Int) == (nO : Int) - 1) = false := by simpa using hkn
              clear hl hend hg HC
              have b1 := (Below.refl wr.heap.size wr).alloc (Nat.le_refl _) (.cells #[.int .u8 5, .int .i64 a, .int .i64 b] 43)
              have HB1 := hiddenC (HB.out.trans (b1.mono HB.out.size))
              have HG1 := hiddenC (HG.out.below b1)
              have g1 := blkA_new 43 wr #[.int .u8 5, .int .i64 a, .int .i64 b]
              go_upto_region 13 with fail
              generalize wr.alloc (.cells #[.int .u8 5, .int .i64 a, .int .i64 b] 43) = w3 at *
              have s0 := g1.cell (k := 0) rfl
              have s1 := g1.cell (k := 1) rfl
              have s2 := g1.cell (k := 2) rfl
              simp only [List.getElem_toArray, List.getElem_cons_zero, List.getElem_cons_succ] at s0 s1 s2
              clear b1 g1 z0 z1 z2 z3 z4 z5 z6 r0 r1 r2
              have z0 := HG1.out.cell (k := 0) rfl
              have z1 := HG1.out.cell (k := 1) rfl
              have z2 := HG1.out.cell (k := 2) rfl
              have z3 := HG1.out.cell (k := 3) rfl
              have z4 := HG1.out.cell (k := 4) rfl
              have z5 := HG1.out.cell (k := 5) rfl
              have z6 := HG1.out.cell (k := 6) rfl
              simp only [List.getElem_toArray, List.getElem_cons_zero, List.getElem_cons_succ] at z0 z1 z2 z3 z4 z5 z6
              go_wp2
              go_roundg (nO - (k + 1))
              case measure => omega
              case rel => exact ⟨k + 1, by omega, rfl, by go_num, HB1.out, HG1.out⟩
            | 6, _, hg, hl, hend =>
              have r0 : wr.cell? ⟨ab, off + k * 3 + 0, none⟩ = some (.int .u8 6) := HC.out k _ hg 0 _ rfl
              have r1 := HC.out k _ hg 1 _ rfl
              have r2 := HC.out k _ hg 2 _ rfl
              simp only [Nat.add_zero] at r0 r1 r2
              simp only [Bool.and_eq_true, naC_iff, wiC_iff] at hl
              have n1 : ¬ a < 0 := by omega
              have n2 : ¬ a ≥ (nL : Int) := by omega
              have n3 : ¬ b < 0 := by omega
              have hkn : ¬ (k : Int) = (nO : Int) - 1 := fun e => by have := hend.2 (by omega); omega
              have hkb : ((k : Int) == (nO : Int) - 1) = false := by simpa using hkn
              clear hl hend hg HC
              have b1 := (Below.refl wr.heap.size wr).alloc (Nat.le_refl _) (.cells #[.int .u8 6, .int .i64 a, .int .i64 b] 43)
              have HB1 := hiddenC (HB.out.trans (b1.mono HB.out.size))
              have HG1 := hiddenC (HG.out.below b1)
              have g1 := blkA_new 43 wr #[.int .u8 6, .int .i64 a, .int .i64 b]
              go_upto_region 13 with fail
              generalize wr.alloc (.cells #[.int .u8 6, .int .i64 a, .int .i64 b] 43) = w3 at *
              have s0 := g1.cell (k := 0) rfl
              have s1 := g1.cell (k := 1) rfl
              have s2 := g1.cell (k := 2) rfl
              simp only [List.getElem_toArray, List.getElem_cons_zero, List.getElem_cons_succ] at s0 s1 s2
              clear b1 g1 z0 z1 z2 z3 z4 z5 z6 r0 r1 r2
              have z0 := HG1.out.cell (k := 0) rfl
              have z1 := HG1.out.cell (k := 1) rfl
              have z2 := HG1.out.cell (k := 2) rfl
              have z3 := HG1.out.cell (k := 3) rfl
              have z4 := HG1.out.cell (k := 4) rfl
              have z5 := HG1.out.cell (k := 5) rfl
              have z6 := HG1.out.cell (k := 6) rfl
              simp only [List.getElem_toArray, List.getElem_cons_zero, List.getElem_cons_succ] at z0 z1 z2 z3 z4 z5 z6
              go_wp2
              go_roundg (nO - (k + 1))
              case measure => omega
              case rel => exact ⟨k + 1, by omega, rfl, by go_num, HB1.out, HG1.out⟩
            | 7, _, hg, hl, hend =>
              have r0 : wr.cell? ⟨ab, off + k * 3 + 0, none⟩ = some (.int .u8 7) := HC.out k _ hg 0 _ rfl
              have r1 := HC.out k _ hg 1 _ rfl
              have r2 := HC.out k _ hg 2 _ rfl
              simp only [Nat.add_zero] at r0 r1 r2
              simp only [Bool.and_eq_true, naC_iff, wiC_iff] at hl
              have n1 : ¬ a < 0 := by omega
              have n2 : ¬ a ≥ p.outs := by omega
              have n3 : ¬ b < 0 := by omega
              have hkn : ¬ (k : Int) = (nO : Int) - 1 := fun e => by have := hend.2 (by omega); omega
              have hkb : ((k : Int) == (nO : Int) - 1) = false := by simpa using hkn
              clear hl hend hg HC
              have b1 := (Below.refl wr.heap.size wr).alloc (Nat.le_refl _) (.cells #[.int .u8 7, .int .i64 a, .int .i64 b] 43)
              have HB1 := hiddenC (HB.out.trans (b1.mono HB.out.size))
              have HG1 := hiddenC (HG.out.below b1)
              have g1 := blkA_new 43 wr #[.int .u8 7, .int .i64 a, .int .i64 b]
              go_upto_region 13 with fail
              generalize wr.alloc (.cells #[.int .u8 7, .int .i64 a, .int .i64 b] 43) = w3 at *
              have s0 := g1.cell (k := 0) rfl
              have s1 := g1.cell (k := 1) rfl
              have s2 := g1.cell (k := 2) rfl
              simp only [List.getElem_toArray, List.getElem_cons_zero, List.getElem_cons_succ] at s0 s1 s2
              clear b1 g1 z0 z1 z2 z3 z4 z5 z6 r0 r1 r2
              have z0 := HG1.out.cell (k := 0) rfl
              have z1 := HG1.out.cell (k := 1) rfl
              have z2 := HG1.out.cell (k := 2) rfl
              have z3 := HG1.out.cell (k := 3) rfl
              have z4 := HG1.out.cell (k := 4) rfl
              have z5 := HG1.out.cell (k := 5) rfl
              have z6 := HG1.out.cell (k := 6) rfl
              simp only [List.getElem_toArray, List.getElem_cons_zero, List.getElem_cons_succ] at z0 z1 z2 z3 z4 z5 z6
              go_wp2
              go_roundg (nO - (k + 1))
              case measure => omega
              case rel => exact ⟨k + 1, by omega, rfl, by go_num, HB1.out, HG1.out⟩
            | t + 8, h8, _, _, _ => exact absurd h8 (by omega)
          · have hki : ¬ (k : Int) < (nO : Int) := by omega
            have hO1 : (nO : Int) > 0 := by omega
            go_upto_region 29 with fail
            go_wp2_with (go_at_call 8; (with_reducible refine (AW.out _).mono ?_); rintro e w8 ⟨rfl, q2⟩; have B8 := hiddenC (HB.out.trans (q2.mono HB.out.size)); clear q2)
            rw [← HPE.out]
            exact ⟨rfl, B8.out⟩
  · have hcb : ((stepC codeS p).2 != 0) = true := by simpa using h0
    generalize (stepC codeS p).2 = cd at *
    clear FO ST LI
    go_enter Try.func6, Try.ntmps6
    go_upto_region 1 with fail
    generalize W.alloc (.cells #[.int .i64 p.mem, .int .i64 p.cnt, .int .i64 p.ins, .int .i64 p.outs, .slice aP nP cP, .slice aL nL cL, .slice aO nO cO] 26) = W1 at *
    have z0 := G0.out.cell (k := 0) rfl
    have z1 := G0.out.cell (k := 1) rfl
    have z2 := G0.out.cell (k := 2) rfl
    have z3 := G0.out.cell (k := 3) rfl
    have z4 := G0.out.cell (k := 4) rfl
    have z5 := G0.out.cell (k := 5) rfl
    have z6 := G0.out.cell (k := 6) rfl
    simp only [List.getElem_toArray, List.getElem_cons_zero, List.getElem_cons_succ] at z0 z1 z2 z3 z4 z5 z6
    go_wp2_with (first
      | (go_at_call 10; (with_reducible refine (CK.out _ B0.out).mono ?_); rintro e w2 ⟨rfl, q2⟩; have B2 := hiddenC (B0.out.trans (q2.mono B0.out.size)); clear q2)
      | (go_at_call 8; (with_reducible refine (AW.out _).mono ?_); rintro e w8 ⟨rfl, q2⟩; have B8 := hiddenC (B2.out.trans (q2.mono B2.out.size)); clear q2))
    rw [← HPE.out]
    exact ⟨rfl, B8.out⟩
end Go.Proofs.Ytdeeaokfljglkab

/- Texts of one chain, laid one behind the other. -/
import Derived.Test.YthgblljokonejaaGreatDoorPartSketchPrints11
import Derived.Deep.SlicePairs
import Derived.SizedLaws
/- A sketch that comes in: how it reads. -/
namespace Go.Proofs.YthgblljokonejaaGreatDoor
open Go.ChangeShapes Go.WideShapes Go.ChangeAt Go.RowKit

theorem Tryz.cells5PL : Tryz.prog.cellsOf 57 = 3 := by kernel_rfl
theorem Tryz.cells5IT : Tryz.prog.cellsOf 59 = 11 := by kernel_rfl
theorem Tryz.cells5SK : Tryz.prog.cellsOf 24 = 2 := by kernel_rfl
theorem Tryz.cells5IS : Tryz.prog.cellsOf 22 = 1 := by kernel_rfl
theorem Tryz.cells5SL : Tryz.prog.cellsOf 55 = 1 := by kernel_rfl
theorem Tryz.cells5KI : Tryz.prog.cellsOf 54 = 1 := by kernel_rfl
theorem Tryz.cells59 : Tryz.prog.cellsOf 9 = 1 := by kernel_rfl
theorem Tryz.cells53 : Tryz.prog.cellsOf 3 = 1 := by kernel_rfl
theorem Tryz.bytes5IT : Tryz.prog.bytesOf 59 = 136 := by kernel_rfl
theorem Tryz.bytes53 : Tryz.prog.bytesOf 3 = 8 := by kernel_rfl
theorem choose5 {α : Type} {n : Nat} {p : Nat → α → Prop} (d : α) (h : ∀ i, i < n → ∃ a, p i a) : ∃ f : Nat → α, ∀ i, i < n → p i (f i) :=
  ⟨fun i => if hi : i < n then (h i hi).choose else d, fun i hi => by simp only [hi, dif_pos]; exact (h i hi).choose_spec⟩
theorem off_none {W : World} {x : Addr} {v : Value} (h : W.cell? (x.add 0) = some v) : x.spot = none := by
  obtain ⟨b, off, sp⟩ := x
  cases sp with
  | none => rfl
  | some s => simp [World.cell?, Addr.add] at h; split at h <;> cases h
section
variable {H : Type} {enc : TypeId × Value → H} {W : World} {base : Nat} {held : Bool}
theorem wAll_mem {P : Program} {e : TypeId} {q : Nat → Bool} : ∀ {l : List (DataW H)} {d : DataW H}, d ∈ l → (DataW.weightsAll P e l).all q = true → (d.weights P e).all q = true
  | [], _, h, _ => by simp at h
  | d0 :: l, d, h, hw => by
    simp only [DataW.weightsAll, List.all_append, Bool.and_eq_true] at hw
    rcases List.mem_cons.1 h with rfl | h
    · exact hw.1
    · exact wAll_mem h hw.2
set_option maxRecDepth 100000 in
theorem place_open {n : Nat} {cs : List Value} {y : DataW H × List MemPlace} (h : DataW.trod enc Tryz.prog W base (fun _ => true) held n 57 cs = some y) :
    ∃ p : Plc, cs = [.string (str p.name), .int .i64 p.port, .int .i64 p.place] ∧ (-9223372036854775808 ≤ p.port ∧ p.port ≤ 9223372036854775807) := by
  obtain ⟨xs, k, hk, hxy, hcl, hxl, hf⟩ := DataW.trod_struct Tryz.underlying57 h
  rw [Tryz.cells5PL] at hcl
  match xs, hxl, cs, hcl with
  | [y0, y1, y2], _, [v0, v1, v2], _ =>
    have g0 := hf 0 _ rfl
    have g1 := hf 1 _ rfl
    have g2 := hf 2 _ rfl
    simp [Tryz.cells59, Tryz.cells53] at g0 g1 g2
    obtain ⟨z0, q0, -⟩ := DataW.trod_string Tryz.underlying9 g0
    obtain ⟨z1, q1, -, b1⟩ := DataW.trod_int Tryz.underlying3 g1
    obtain ⟨z2, q2, -, -⟩ := DataW.trod_int Tryz.underlying3 g2
    simp only [List.cons.injEq, and_true] at q0 q1 q2
    subst q0 q1 q2
    exact ⟨⟨z0.data.toList, z1, z2⟩, rfl, bounds_i64 b1⟩
/-- What is known of an item that came in. -/
structure ItO (W : World) (p : Itm × Value) : Prop where
  ints : IntsAt W p.2 p.1.nums
  nums : p.1.nums.length ≤ 140737488351232
  shp : ∃ b d, p.2 = .slice b p.1.nums.length d ∧ (b = none → p.1.nums.length = 0 ∧ d = 0) ∧ p.1.nums.length ≤ d
  fits : (-9223372036854775808 ≤ p.1.frm.port ∧ p.1.frm.port ≤ 9223372036854775807) ∧ (-9223372036854775808 ≤ p.1.to.port ∧ p.1.to.port ≤ 9223372036854775807) ∧ ∀ x ∈ p.1.nums, -9223372036854775808 ≤ x ∧ x ≤ 9223372036854775807
/-- What is known of a slice of numbers that came in. -/
theorem nums_open {n : Nat} {v : Value} {y : DataW H × List MemPlace} (h : DataW.trod enc Tryz.prog W base (fun _ => true) held n 55 [v] = some y) (hw : (y.1.weights Tryz.prog 55).all (· ≤ reachBytes) = true) :
    ∃ ns : List Int, IntsAt W v ns ∧ ns.length ≤ 140737488351232 ∧ (∃ b d, v = .slice b ns.length d ∧ (b = none → ns.length = 0 ∧ d = 0) ∧ ns.length ≤ d) ∧ ∀ x ∈ ns, -9223372036854775808 ≤ x ∧ x ≤ 9223372036854775807 := by
  rcases open_ints Tryz.underlying55 Tryz.underlying3 Tryz.cells53 h with ⟨h1, -⟩ | ⟨a, len, cap, zs, h1, -, hl, -, hz, hx, hc, hb⟩
  · simp only [List.cons.injEq, and_true] at h1
    subst h1
    exact ⟨[], ⟨none, 0, rfl, .inl rfl⟩, by decide, ⟨none, 0, rfl, fun _ => ⟨rfl, rfl⟩, Nat.le_refl _⟩, fun x hx => by cases hx⟩
  · simp only [List.cons.injEq, and_true] at h1
    subst h1
    simp only [if_true] at hz
    have hl2 : (zs.take len).length = len := by rw [List.length_take]; omega
    have hr : len ≤ 140737488351232 := by
      rw [hx] at hw
      simp only [DataW.weights, Tryz.underlying55, List.all_cons, Bool.and_eq_true, decide_eq_true_eq, Tryz.bytes53] at hw
      have := hw.1
      simp only [reachBytes, lits, List.length_map, List.length_take, List.length_drop] at this
      omega
    refine ⟨zs.take len, ?_, by omega, ⟨some a, cap, by rw [hl2], (fun e => by cases e), by omega⟩, fun x hx => bounds_i64 (hb x (List.mem_of_mem_take hx))⟩
    refine ⟨some a, cap, by rw [hl2], ?_⟩
    by_cases h0 : 0 < len
    · have hs := off_none (hc 0 (by omega))
      obtain ⟨b, off, sp⟩ := a
      simp only at hs
      subst hs
      refine .inr ⟨b, off, rfl, fun k hk => ?_⟩
      rw [hl2] at hk
      have := hc k (by omega)
      rw [Addr.add_lit] at this
      rw [this, List.getD_eq_getElem?_getD, List.getD_eq_getElem?_getD, List.getElem?_take_of_lt hk]
    · left
      have e : len = 0 := by omega
      rw [e]; rfl
set_option maxRecDepth 100000 in
theorem item_open {n : Nat} {cs : List Value} {y : DataW H × List MemPlace} (h : DataW.trod enc Tryz.prog W base (fun _ => true) held n 59 cs = some y) (hw : (y.1.weights Tryz.prog 59).all (· ≤ reachBytes) = true) :
    ∃ p : Itm × Value, cs = itP p ∧ ItO W p := by
  obtain ⟨xs, k, hk, hxy, hcl, hxl, hf⟩ := DataW.trod_struct Tryz.underlying59 h
  rw [Tryz.cells5IT] at hcl
  match xs, hxl, cs, hcl with
  | [y0, y1, y2, y3, y4, y5, y6], _, [v0, v1, v2, v3, v4, v5, v6, v7, v8, v9, v10], _ =>
    have g0 := hf 0 _ rfl
    have g1 := hf 1 _ rfl
    have g2 := hf 2 _ rfl
    have g3 := hf 3 _ rfl
    have g4 := hf 4 _ rfl
    have g5 := hf 5 _ rfl
    have g6 := hf 6 _ rfl
    simp [Tryz.cells59, Tryz.cells53, Tryz.cells5PL, Tryz.cells5SL, Tryz.cells5KI] at g0 g1 g2 g3 g4 g5 g6
    have hw3 : (y3.1.weights Tryz.prog 55).all (· ≤ reachBytes) = true := by
      rw [hxy] at hw
      simp only [DataW.weights, Tryz.underlying59] at hw
      rw [List.all_eq_true] at hw ⊢
      exact fun m hm => hw m (DataW.weights_mem_each (j := 3) (t := 55) (d := y3.1) rfl rfl m hm)
    obtain ⟨z0, q0, -, -⟩ := DataW.trod_int Tryz.underlying54 g0
    obtain ⟨z1, q1, -⟩ := DataW.trod_string Tryz.underlying9 g1
    obtain ⟨z2, q2, -⟩ := DataW.trod_string Tryz.underlying9 g2
    obtain ⟨ns, a1, a2, a3, a4⟩ := nums_open g3 hw3
    obtain ⟨p4, q4, b4⟩ := place_open g4
    obtain ⟨p5, q5, b5⟩ := place_open g5
    obtain ⟨z6, q6, -, -⟩ := DataW.trod_int Tryz.underlying3 g6
    simp only [List.cons.injEq, and_true] at q0 q1 q2 q4 q5 q6
    obtain ⟨rfl, rfl, rfl⟩ := q4
    obtain ⟨rfl, rfl, rfl⟩ := q5
    subst q0 q1 q2 q6
    exact ⟨(⟨z0, z1.data.toList, z2.data.toList, ns, p4, p5, z6⟩, v3), rfl, a1, a2, a3, b4, b5, a4⟩
set_option maxRecDepth 100000 in
theorem sketch_open {r : Reach} {b0 : Nat} {v : Value} {d : DataW H} {p : List MemPlace} (hv : Value.okWide Tryz.prog W r b0 24 v) (h : DataW.Trod enc Tryz.prog W base (fun _ => true) held 24 v d p) (hw : (d.weights Tryz.prog 24).all (· ≤ reachBytes) = true) :
    ∃ nm a n c L, v = .agg #[.string (str nm), .slice a n c] ∧ ArgS W a n L := by
  obtain ⟨cs, rfl, hsz⟩ := okWide_struct Tryz.underlying24 hv
  rw [Tryz.cells5SK] at hsz
  obtain ⟨fuel, hf⟩ := h
  obtain ⟨xs, k, hk, hxy, hcl, hxl, hf⟩ := DataW.trod_struct Tryz.underlying24 hf
  obtain ⟨l⟩ := cs
  match xs, hxl, l, hsz with
  | [y0, y1], _, [v0, v1], _ =>
    have g0 := hf 0 _ rfl
    have g1 := hf 1 _ rfl
    simp [Value.cells, Tryz.cells59, Tryz.cells5IS] at g0 g1
    have hw1 : (y1.1.weights Tryz.prog 22).all (· ≤ reachBytes) = true := by
      have hd := congrArg Prod.fst hxy
      simp only at hd
      rw [hd] at hw
      simp only [DataW.weights, Tryz.underlying24] at hw
      rw [List.all_eq_true] at hw ⊢
      exact fun m hm => hw m (DataW.weights_mem_each (j := 1) (t := 22) (d := y1.1) rfl rfl m hm)
    obtain ⟨z0, q0, -⟩ := DataW.trod_string Tryz.underlying9 g0
    simp only [List.cons.injEq, and_true] at q0
    subst q0
    rcases Deep.open_slice Tryz.underlying22 g1 with ⟨h1, -⟩ | ⟨x, len, cap, m, n, D, Pl, h1, -, hl, -, hm, hd, hx⟩
    · simp only [List.cons.injEq, and_true] at h1
      subst h1
      exact ⟨z0.data.toList, none, 0, 0, [], rfl, rfl, ⟨.inl rfl, fun p hp => by cases hp⟩, by decide, (fun p hp => by cases hp), (fun p hp => by cases hp), fun p hp => by cases hp⟩
    · simp only [List.cons.injEq, and_true] at h1
      subst h1
      simp only [if_true] at hm
      rw [hd] at hw1
      simp only [DataW.weights, Tryz.underlying22, List.all_cons, List.all_append, Bool.and_eq_true, decide_eq_true_eq, Tryz.bytes5IT] at hw1
      obtain ⟨wr, we, -⟩ := hw1
      simp only [reachBytes, List.length_map, List.length_range] at wr
      have each : ∀ i, i < len → ∃ p : Itm × Value, W.cells? base (x.add (i * 11)) 11 = some (itP p) ∧ ItO W p := by
        intro i hi
        obtain ⟨cs', h1, h2⟩ := hx i (by omega)
        rw [Tryz.cells5IT] at h1
        obtain ⟨p, rfl, hp⟩ := item_open h2 (wAll_mem (List.mem_map.2 ⟨i, List.mem_range.2 hi, rfl⟩) we)
        exact ⟨p, h1, hp⟩
      obtain ⟨q, hq⟩ := choose5 (noItm, Value.slice none 0 0) each
      have hn : ∀ k, k < len → nthI ((List.range len).map q) k = q k := fun k hk => by
        unfold nthI; rw [List.getD_eq_getElem?_getD, List.getElem?_map, List.getElem?_range hk]; rfl
      have hmem : ∀ p ∈ (List.range len).map q, ItO W p := fun p hp => by
        obtain ⟨i, hi, rfl⟩ := List.mem_map.1 hp
        exact (hq i (List.mem_range.1 hi)).2
      refine ⟨z0.data.toList, some x, len, cap, (List.range len).map q, rfl, by simp, ⟨?_, fun p hp => (hmem p hp).ints⟩, by omega, fun p hp => (hmem p hp).nums, fun p hp => (hmem p hp).shp, fun p hp => (hmem p hp).fits⟩
      by_cases h0 : 0 < len
      · right
        have cell : ∀ i, i < len → ∀ j u, (itP (q i))[j]? = some u → W.cell? ((x.add (i * 11)).add j) = some u := fun i hi j u hu => by
          obtain ⟨_, hlen, hc⟩ := World.cells?_some (hq i hi).1
          have hj : j < 11 := by
            have := (List.getElem?_eq_some_iff.1 hu).1
            have e : (itP (q i)).length = 11 := rfl
            omega
          rw [hc j hj, hu]
        have hs := off_none (W := W) (x := x.add (0 * 11)) (cell 0 h0 0 _ rfl)
        obtain ⟨b, off, sp⟩ := x
        simp [Addr.add] at hs
        subst hs
        refine ⟨b, off, rfl, fun k hk => ?_⟩
        have hk' : k < len := by simpa using hk
        rw [hn k hk']
        have c := cell k hk'
        rw [Addr.add_lit] at c
        exact ⟨by simpa [Addr.add_lit] using c 0 _ rfl, by simpa [Addr.add_lit] using c 1 _ rfl, by simpa [Addr.add_lit] using c 2 _ rfl, by simpa [Addr.add_lit] using c 3 _ rfl, by simpa [Addr.add_lit] using c 4 _ rfl, by simpa [Addr.add_lit] using c 5 _ rfl, by simpa [Addr.add_lit] using c 6 _ rfl, by simpa [Addr.add_lit] using c 7 _ rfl, by simpa [Addr.add_lit] using c 8 _ rfl, by simpa [Addr.add_lit] using c 9 _ rfl, by simpa [Addr.add_lit] using c 10 _ rfl⟩
      · left
        have e : len = 0 := by omega
        subst e
        rfl
end
end Go.Proofs.YthgblljokonejaaGreatDoor

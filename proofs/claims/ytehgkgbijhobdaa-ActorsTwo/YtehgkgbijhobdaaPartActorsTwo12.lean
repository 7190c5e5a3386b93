/- Texts of one chain, laid one behind the other. -/
import Derived.Test.YtehgkgbijhobdaaPartActorsTwo10
import Derived.Test.YtehgkgbijhobdaaPartActorsTwo5
import Derived.Deep.SlicePairs
import Derived.SizedLaws
namespace Go.Proofs.Ytehgkgbijhobdaa
open Go.ChangeShapes Go.WideShapes Go.ChangeAt Go.RowKit
theorem Try.cells7SL : Try.prog.cellsOf 22 = 1 := by kernel_rfl
theorem Try.cells7SS : Try.prog.cellsOf 37 = 1 := by kernel_rfl
theorem Try.cells73 : Try.prog.cellsOf 3 = 1 := by kernel_rfl
theorem Try.bytes73 : Try.prog.bytesOf 3 = 8 := by kernel_rfl
theorem Try.bytes7SL : Try.prog.bytesOf 22 = 24 := by kernel_rfl
theorem Try.cells7BO : Try.prog.cellsOf 45 = 2 := by kernel_rfl
theorem choose7 {α : Type} {n : Nat} {p : Nat → α → Prop} (d : α) (h : ∀ i, i < n → ∃ a, p i a) : ∃ f : Nat → α, ∀ i, i < n → p i (f i) :=
  ⟨fun i => if hi : i < n then (h i hi).choose else d, fun i hi => by simp only [hi, dif_pos]; exact (h i hi).choose_spec⟩
theorem off_none7 {W : World} {x : Addr} {v : Value} (h : W.cell? (x.add 0) = some v) : x.spot = none := by
  obtain ⟨b, off, sp⟩ := x
  cases sp with
  | none => rfl
  | some s => simp [World.cell?, Addr.add] at h; split at h <;> cases h
/-- Rows that came in. -/
structure ArgR (w : World) (a : Option Addr) (len cap : Nat) (I : List (List Int)) : Prop where
  size : I.length = len
  reach : len * 24 ≤ 140737488351232
  none : a = Option.none → len = 0 ∧ cap = 0
  room : len ≤ cap
  lies : I = [] ∨ ∃ b off, a = some ⟨b, off, Option.none⟩ ∧ ∀ k, k < I.length → ∃ x c, w.cell? ⟨b, off + k, Option.none⟩ = some (.slice x (nthL I k).length c) ∧ Arg w x (nthL I k).length c (nthL I k)
theorem argR_nil {w : World} : ArgR w none 0 0 [] := ⟨rfl, by decide, fun _ => ⟨rfl, rfl⟩, Nat.le_refl _, .inl rfl⟩
theorem nthL_out {I : List (List Int)} {k : Nat} (h : I.length ≤ k) : nthL I k = [] := by
  unfold nthL; rw [List.getD_eq_getElem?_getD, List.getElem?_eq_none h]; rfl
theorem ArgR.argL {w : World} {a : Option Addr} {len cap : Nat} {I : List (List Int)} (h : ArgR w a len cap I) : ArgL w a len I := by
  refine ⟨h.size, ?_, fun k => ?_⟩
  · rcases h.lies with h0 | ⟨b, off, rfl, hc⟩
    · exact .inl h0
    · refine .inr ⟨b, off, rfl, fun k hk => ?_⟩
      obtain ⟨x, c, h1, h2⟩ := hc k hk
      exact ⟨x, c, h1, h2.lies⟩
  · by_cases hk : k < I.length
    · rcases h.lies with h0 | ⟨b, off, rfl, hc⟩
      · rw [h0] at hk; simp at hk
      · obtain ⟨x, c, h1, h2⟩ := hc k hk
        exact h2.fits
    · rw [nthL_out (by omega)]; exact inR0
theorem ArgR.below {w w' : World} {a : Option Addr} {len cap : Nat} {I : List (List Int)} (h : ArgR w a len cap I) (hb : Below w.heap.size w w') : ArgR w' a len cap I := by
  refine ⟨h.size, h.reach, h.none, h.room, ?_⟩
  rcases h.lies with h0 | ⟨b, off, rfl, hc⟩
  · exact .inl h0
  · refine .inr ⟨b, off, rfl, fun k hk => ?_⟩
    obtain ⟨x, c, h1, h2⟩ := hc k hk
    exact ⟨x, c, by rw [hb.cell (block_lt_of_cell h1)]; exact h1, h2.below hb⟩
/-- A call of a script. -/
abbrev OpL := Int × List (List Int)
def nthO (S : List OpL) (k : Nat) : OpL := S.getD k (0, [])
/-- A script that came in. -/
structure ArgO (w : World) (a : Option Addr) (len : Nat) (S : List OpL) : Prop where
  size : S.length = len
  reach : len * 32 ≤ 140737488351232
  lies : S = [] ∨ ∃ b off, a = some ⟨b, off, none⟩ ∧ ∀ k, k < S.length → w.cell? ⟨b, off + k * 2, none⟩ = some (.int .i64 (nthO S k).1) ∧ ∃ x l c, w.cell? ⟨b, off + k * 2 + 1, none⟩ = some (.slice x l c) ∧ ArgR w x l c (nthO S k).2
theorem ArgO.below {w w' : World} {a : Option Addr} {len : Nat} {S : List OpL} (h : ArgO w a len S) (hb : Below w.heap.size w w') : ArgO w' a len S := by
  refine ⟨h.size, h.reach, ?_⟩
  rcases h.lies with h0 | ⟨b, off, rfl, hc⟩
  · exact .inl h0
  · refine .inr ⟨b, off, rfl, fun k hk => ?_⟩
    obtain ⟨h0, x, l, c, h1, h2⟩ := hc k hk
    exact ⟨by rw [hb.cell (block_lt_of_cell h0)]; exact h0, x, l, c, by rw [hb.cell (block_lt_of_cell h1)]; exact h1, h2.below hb⟩
section
variable {H : Type} {enc : TypeId × Value → H} {W : World} {base : Nat} {held : Bool}
theorem wAll_mem7 {P : Program} {e : TypeId} {q : Nat → Bool} : ∀ {l : List (DataW H)} {d : DataW H}, d ∈ l → (DataW.weightsAll P e l).all q = true → (d.weights P e).all q = true
  | [], _, h, _ => by simp at h
  | d0 :: l, d, h, hw => by
    simp only [DataW.weightsAll, List.all_append, Bool.and_eq_true] at hw
    rcases List.mem_cons.1 h with rfl | h
    · exact hw.1
    · exact wAll_mem7 h hw.2
theorem row_open {n : Nat} {cs : List Value} {y : DataW H × List MemPlace} (h : DataW.trod enc Try.prog W base (fun _ => true) held n 22 cs = some y) (hw : (y.1.weights Try.prog 22).all (· ≤ reachBytes) = true) :
    ∃ (zs : List Int) (b : Option Addr) (d : Nat), cs = [.slice b zs.length d] ∧ Arg W b zs.length d zs := by
  rcases open_ints Try.underlying22 Try.underlying3 Try.cells73 h with ⟨h1, -⟩ | ⟨a, len, cap, zs, h1, -, hl, -, hz, hx, hc, hb⟩
  · exact ⟨[], none, 0, h1, arg_nil⟩
  · simp only [if_true] at hz
    have hl2 : (zs.take len).length = len := by rw [List.length_take]; omega
    have hr : len * 8 ≤ 140737488351232 := by
      rw [hx] at hw
      simp only [DataW.weights, Try.underlying22, List.all_cons, Bool.and_eq_true, decide_eq_true_eq, Try.bytes73] at hw
      have := hw.1
      simp only [reachBytes, lits, List.length_map, List.length_take, List.length_drop] at this
      omega
    refine ⟨zs.take len, some a, cap, by rw [hl2]; exact h1, ?_⟩
    rw [hl2]
    exact arg_mk hl hz hc hb hr
set_option maxRecDepth 100000 in
theorem rows_open {n : Nat} {cs : List Value} {y : DataW H × List MemPlace} (h : DataW.trod enc Try.prog W base (fun _ => true) held n 37 cs = some y) (hw : (y.1.weights Try.prog 37).all (· ≤ reachBytes) = true) :
    ∃ (a : Option Addr) (len cap : Nat) (I : List (List Int)), cs = [.slice a len cap] ∧ ArgR W a len cap I := by
  rcases Deep.open_slice Try.underlying37 h with ⟨h1, -⟩ | ⟨x, len, cap, m, n, D, Pl, h1, -, hl, -, hm, hd, hx⟩
  · exact ⟨none, 0, 0, [], h1, argR_nil⟩
  · simp only [if_true] at hm
    rw [hd] at hw
    simp only [DataW.weights, Try.underlying37, List.all_cons, List.all_append, Bool.and_eq_true, decide_eq_true_eq, Try.bytes7SL] at hw
    obtain ⟨wr, we, -⟩ := hw
    simp only [reachBytes, List.length_map, List.length_range] at wr
    have each : ∀ i, i < len → ∃ p : List Int × Option Addr × Nat, W.cell? (x.add i) = some (.slice p.2.1 p.1.length p.2.2) ∧ Arg W p.2.1 p.1.length p.2.2 p.1 := by
      intro i hi
      obtain ⟨cs', h1, h2⟩ := hx i (by omega)
      rw [Try.cells7SL, Nat.mul_one] at h1
      obtain ⟨zs, b, d, rfl, hp⟩ := row_open h2 (wAll_mem7 (List.mem_map.2 ⟨i, List.mem_range.2 hi, rfl⟩) we)
      obtain ⟨_, hlen, hc⟩ := World.cells?_some h1
      have h0 := hc 0 (by decide)
      refine ⟨(zs, b, d), ?_, hp⟩
      simpa [Addr.add] using h0
    obtain ⟨q, hq⟩ := choose7 ([], none, 0) each
    have hn : ∀ k, k < len → nthL ((List.range len).map fun i => (q i).1) k = (q k).1 := fun k hk => by
      unfold nthL; rw [List.getD_eq_getElem?_getD, List.getElem?_map, List.getElem?_range hk]; rfl
    refine ⟨some x, len, cap, (List.range len).map fun i => (q i).1, h1, by simp, by omega, (fun e => by cases e), hl, ?_⟩
    by_cases h0 : 0 < len
    · right
      have hs := off_none7 (W := W) (x := x) (hq 0 h0).1
      obtain ⟨b, off, sp⟩ := x
      simp only at hs
      subst hs
      refine ⟨b, off, rfl, fun k hk => ?_⟩
      have hk' : k < len := by simpa using hk
      rw [hn k hk']
      have c := (hq k hk').1
      rw [Addr.add_lit] at c
      exact ⟨_, _, c, (hq k hk').2⟩
    · left
      have e : len = 0 := by omega
      subst e
      rfl
set_option maxRecDepth 100000 in
theorem both_open {r : Reach} {b0 : Nat} {v : Value} {d : DataW H} {p : List MemPlace} (hv : Value.okWide Try.prog W r b0 45 v) (h : DataW.Trod enc Try.prog W base (fun _ => true) held 45 v d p) (hw : (d.weights Try.prog 45).all (· ≤ reachBytes) = true) :
    ∃ (a1 : Option Addr) (n1 c1 : Nat) (X : List (List Int)) (a2 : Option Addr) (n2 c2 : Nat) (Y : List (List Int)), v = .agg #[.slice a1 n1 c1, .slice a2 n2 c2] ∧ ArgR W a1 n1 c1 X ∧ ArgR W a2 n2 c2 Y := by
  obtain ⟨cs, rfl, hsz⟩ := okWide_struct Try.underlying45 hv
  rw [Try.cells7BO] at hsz
  obtain ⟨fuel, hf⟩ := h
  obtain ⟨xs, k, hk, hxy, hcl, hxl, hf⟩ := DataW.trod_struct Try.underlying45 hf
  obtain ⟨l⟩ := cs
  match xs, hxl, l, hsz with
  | [y0, y1], _, [v0, v1], _ =>
    have g0 := hf 0 _ rfl
    have g1 := hf 1 _ rfl
    simp [Value.cells, Try.cells7SS] at g0 g1
    have hd := congrArg Prod.fst hxy
    simp only at hd
    rw [hd] at hw
    simp only [DataW.weights, Try.underlying45] at hw
    rw [List.all_eq_true] at hw
    have hw0 : (y0.1.weights Try.prog 37).all (· ≤ reachBytes) = true := by
      rw [List.all_eq_true]
      exact fun m hm => hw m (DataW.weights_mem_each (j := 0) (t := 37) (d := y0.1) rfl rfl m hm)
    have hw1 : (y1.1.weights Try.prog 37).all (· ≤ reachBytes) = true := by
      rw [List.all_eq_true]
      exact fun m hm => hw m (DataW.weights_mem_each (j := 1) (t := 37) (d := y1.1) rfl rfl m hm)
    obtain ⟨a1, n1, c1, X, q0, hX⟩ := rows_open g0 hw0
    obtain ⟨a2, n2, c2, Y, q1, hY⟩ := rows_open g1 hw1
    simp only [List.cons.injEq, and_true] at q0 q1
    subst q0 q1
    exact ⟨a1, n1, c1, X, a2, n2, c2, Y, rfl, hX, hY⟩
end
end Go.Proofs.Ytehgkgbijhobdaa

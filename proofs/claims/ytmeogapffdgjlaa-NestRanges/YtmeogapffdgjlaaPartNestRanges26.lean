/- Texts of one chain, laid one behind the other. -/
import Derived.Test.YtmeogapffdgjlaaPartNestRanges13
import Derived.Test.YtmeogapffdgjlaaPartNestRanges25
namespace Go.Proofs.Ytmeogapffdgjlaa
open Go.ChangeShapes Go.WideShapes Go.ChangeAt Go.RowKit
theorem Try.cellsLp : Try.prog.cellsOf 57 = 3 := by kernel_rfl
theorem Try.cellsLs : Try.prog.cellsOf 22 = 1 := by kernel_rfl
theorem Try.cells3Z : Try.prog.cellsOf 3 = 1 := by kernel_rfl
theorem mch_map {F : Nat → Prop} {m : Bool} {w : World} (s : Nat → Lv) (q : Nat → Lp) : ∀ (I : List Nat), (∀ i ∈ I, (s i).t = (q i).times ∧ (s i).n = (q i).node ∧ (s i).k = (q i).body.length ∧ ((q i).body = [] ∨ ∃ b o, (s i).a = some ⟨b, o, none⟩ ∧ (m = true → (q i).body.length + 1 ≤ (s i).c) ∧ NstR F m w b o (q i).body)) → MchZ F m w (I.map s) (I.map q)
  | [], _ => trivial
  | i :: I, h => ⟨h i (List.mem_cons_self ..), mch_map s q I fun j hj => h j (List.mem_cons_of_mem _ hj)⟩
section
variable {H : Type} {enc : TypeId × Value → H} {W : World} {base : Nat} {held : Bool}
set_option maxRecDepth 100000 in
theorem loops_open : ∀ (fuel : Nat) {v : Value} {y : DataW H × List MemPlace}, DataW.trod enc Try.prog W base (fun _ => true) held fuel 22 [v] = some y → ∃ (a : Option Addr) (c : Nat) (l : List Lp), v = .slice a l.length c ∧ Nst (· < W.heap.size) false W a l := by
  intro fuel
  induction fuel using Nat.strongRecOn with
  | _ fuel ih =>
  intro v y h
  rcases DataW.trod_slice Try.underlying22 h with ⟨h1, -⟩ | ⟨x, len, cap, elems, rest, n, hfu, hcs, -, -, -, -, hel, hx, -⟩
  · simp only [List.cons.injEq, and_true] at h1
    exact ⟨none, 0, [], h1, .inl rfl⟩
  · simp only [List.cons.injEq, and_true] at hcs
    subst hcs
    have each : ∀ i, i < len → ∃ p : Lp × Option Addr × Nat, W.cells? base (x.add (i * 3)) 3 = some [.int .i64 p.1.times, .int .i64 p.1.node, .slice p.2.1 p.1.body.length p.2.2] ∧ Nst (· < W.heap.size) false W p.2.1 p.1.body := by
      intro i hi
      have key := hx i hi
      rw [List.getElem?_eq_getElem (by omega), Try.cellsLp] at key
      obtain ⟨cs', h1, h2⟩ := Option.bind_eq_some_iff.1 key
      obtain ⟨xs, k, hk, -, hcl, hxl, hf⟩ := DataW.trod_struct Try.underlying57 h2
      rw [Try.cellsLp] at hcl
      match xs, hxl, cs', hcl with
      | [y0, y1, y2], _, [v0, v1, v2], _ =>
        have g0 := hf 0 _ rfl
        have g1 := hf 1 _ rfl
        have g2 := hf 2 _ rfl
        simp [Try.cells3Z, Try.cellsLs] at g0 g1 g2
        obtain ⟨z0, q0, -, -⟩ := DataW.trod_int Try.underlying3 g0
        obtain ⟨z1, q1, -, -⟩ := DataW.trod_int Try.underlying3 g1
        simp only [List.cons.injEq, and_true] at q0 q1
        obtain ⟨a, c, l, q2, hN⟩ := ih k (by omega) g2
        subst q0 q1 q2
        exact ⟨(⟨z0, z1, l⟩, a, c), h1, hN⟩
    obtain ⟨q, hq⟩ := chooseN (⟨0, 0, []⟩, none, 0) each
    have hlen : ((List.range len).map fun i => (q i).1).length = len := by simp
    refine ⟨some x, cap, (List.range len).map fun i => (q i).1, by rw [hlen], ?_⟩
    by_cases h0 : 0 < len
    · right
      have cell : ∀ i, i < len → ∀ j u, ([.int .i64 (q i).1.times, .int .i64 (q i).1.node, .slice (q i).2.1 (q i).1.body.length (q i).2.2] : List Value)[j]? = some u → W.cell? ((x.add (i * 3)).add j) = some u := fun i hi j u hu => by
        obtain ⟨_, hlen, hcc⟩ := World.cells?_some (hq i hi).1
        have hj : j < 3 := (List.getElem?_eq_some_iff.1 hu).1
        rw [hcc j hj, hu]
      have hs := off_noneN (W := W) (x := x.add (0 * 3)) (cell 0 h0 0 _ rfl)
      obtain ⟨b, off, sp⟩ := x
      rw [Nat.zero_mul] at hs
      have hs' : sp = none := by simpa [Addr.add] using hs
      subst hs'
      have key : ∀ k, k < len → ∀ j u, ([.int .i64 (q k).1.times, .int .i64 (q k).1.node, .slice (q k).2.1 (q k).1.body.length (q k).2.2] : List Value)[j]? = some u → W.cell? ⟨b, off + k * 3 + j, none⟩ = some u := fun k hk j u hu => by
        have cc := cell k hk j u hu
        rw [Addr.add_lit, Addr.add_lit] at cc
        exact cc
      refine ⟨b, off, rfl, nst_of_row (F := (· < W.heap.size)) (m := false) (b := b) (S := (List.range len).map fun i => ⟨(q i).1.times, (q i).1.node, (q i).2.1, (q i).1.body.length, (q i).2.2⟩) (block_lt_of_cell (key 0 h0 0 _ rfl)) (mch_map _ _ _ fun i hi => ⟨rfl, rfl, rfl, ?_⟩) (fun k hk j hj => ?_) (fun e => by cases e)⟩
      · rcases (hq i (List.mem_range.1 hi)).2 with h | ⟨b', o', e1, h⟩
        · exact .inl h
        · exact .inr ⟨b', o', e1, (fun e => by cases e), h⟩
      · have hk' : k < len := by simpa using hk
        have e : nthZ ((List.range len).map fun i => (⟨(q i).1.times, (q i).1.node, (q i).2.1, (q i).1.body.length, (q i).2.2⟩ : Lv)) k = ⟨(q k).1.times, (q k).1.node, (q k).2.1, (q k).1.body.length, (q k).2.2⟩ := by
          unfold nthZ
          rw [List.getD_eq_getElem?_getD, List.getElem?_eq_getElem hk, List.getElem_map, List.getElem_range]
          rfl
        rw [e]
        match j, hj with
        | 0, _ => exact key k hk' 0 _ rfl
        | 1, _ => exact key k hk' 1 _ rfl
        | 2, _ => exact key k hk' 2 _ rfl
    · left
      have e : len = 0 := by omega
      subst e
      rfl
end
end Go.Proofs.Ytmeogapffdgjlaa

/- NetEquation: for every input whose values together are at most 1048576 (each counted each time it is reached), the statement's function returns true and leaves what it was handed as it was; that bound is its condition. -/
import Derived.Test.YtancphohpedigaaN14
import Derived.ShutString
import Derived.ChangeOld
import Derived.Below
import Derived.JoinedCond
namespace Go.Proofs.Ytancphohpedigaa
open Go.ChangeShapes Go.WideShapes Go.ChangeAt Go.RowKit

theorem bulk_lits {H : Type} (zs : List Int) : Rows.uptoBulkAll (lits (H := H) .i64 zs) = zs.length := by
  induction zs with
  | nil => rfl
  | cons z zs ih =>
    have e : lits (H := H) .i64 (z :: zs) = .lit (.int .i64 z) :: lits .i64 zs := rfl
    rw [e, Rows.uptoBulkAll, ih, Rows.uptoBulk, List.length_cons]
    · omega
    · intro bytes h; cases h
theorem bulk_slice {H : Type} (zs : List Int) (len : Nat) (h : len ≤ zs.length) : len ≤ Rows.uptoBulk (DataW.slice (lits (H := H) .i64 (zs.take len)) (lits .i64 (zs.drop len))) := by
  rw [Rows.uptoBulk, bulk_lits, bulk_lits, List.length_take]
  omega

theorem bulk_pos {H : Type} (d : DataW H) : 1 ≤ Rows.uptoBulk d := by
  cases d with
  | lit l => cases l <;> (first | (simp only [Rows.uptoBulk]; omega) | simp [Rows.uptoBulk])
  | _ => first | (simp only [Rows.uptoBulk]; omega) | simp [Rows.uptoBulk]
theorem bulk_len {H : Type} : ∀ E : List (DataW H), E.length ≤ Rows.uptoBulkAll E
  | [] => Nat.zero_le _
  | d :: r => by
    have h1 := bulk_pos d
    have h2 := bulk_len r
    rw [Rows.uptoBulkAll, List.length_cons]
    omega

section
variable {H : Type} {enc : TypeId × Value → H} {W : World} {base : Nat} {held : Bool}
theorem Try.cellsU3 : Try.prog.cellsOf 3 = 1 := by kernel_rfl
theorem Try.cellsUS : Try.prog.cellsOf 45 = 1 := by kernel_rfl
theorem rowU_open {n : Nat} {v : Value} {y : DataW H × List MemPlace} (h : DataW.trod enc Try.prog W base (fun _ => true) held n 45 [v] = some y) (hb : Rows.uptoBulk y.1 ≤ 1048576) :
    ∃ (ns : List Int) (x : Option Addr) (c : Nat), v = .slice x ns.length c ∧ Arg W x ns.length c ns ∧ ns.length ≤ Rows.uptoBulk y.1 := by
  rcases open_ints Try.underlying45 Try.underlying3 Try.cellsU3 h with ⟨h1, -⟩ | ⟨a, len, cap, zs, h1, -, hl, -, hz, hx, hc, hw⟩
  · simp only [List.cons.injEq, and_true] at h1
    subst h1
    exact ⟨[], none, 0, rfl, arg_nil, Nat.zero_le _⟩
  · simp only [List.cons.injEq, and_true] at h1
    subst h1
    simp only [if_true] at hz
    have hl2 : (zs.take len).length = len := by rw [List.length_take]; omega
    have hu : len ≤ Rows.uptoBulk y.1 := by rw [hx]; exact bulk_slice zs len (by omega)
    refine ⟨zs.take len, some a, cap, by rw [hl2], ?_, by rw [hl2]; exact hu⟩
    rw [hl2]
    exact arg_mk hl hz hc hw (by omega)
theorem bulk_mem {d : DataW H} : ∀ {E : List (DataW H)}, d ∈ E → Rows.uptoBulk d ≤ Rows.uptoBulkAll E
  | [], h => by cases h
  | e :: E, h => by
    rw [Rows.uptoBulkAll]
    rcases List.mem_cons.1 h with rfl | h
    · omega
    · have := bulk_mem h; omega
theorem tot_bulk {f : Nat → List Int} {D : Nat → DataW H} : ∀ L : List Nat, (∀ i ∈ L, (f i).length ≤ Rows.uptoBulk (D i)) → totN (L.map f) ≤ Rows.uptoBulkAll (L.map D)
  | [], _ => Nat.zero_le _
  | i :: L, h => by
    have h1 := tot_bulk L fun k hk => h k (List.mem_cons_of_mem _ hk)
    have h2 := h i (List.mem_cons_self ..)
    rw [List.map_cons, List.map_cons, Rows.uptoBulkAll]
    simp only [totN]
    omega
set_option maxRecDepth 100000 in
theorem rowsU_open {n : Nat} {v : Value} {y : DataW H × List MemPlace} (h : DataW.trod enc Try.prog W base (fun _ => true) held n 57 [v] = some y) (hb : Rows.uptoBulk y.1 ≤ 1048576) :
    ∃ (a : Option Addr) (len cap : Nat) (I : List (List Int)), v = .slice a len cap ∧ ArgRw W a len I := by
  rcases Deep.open_slice Try.underlying57 h with ⟨h1, -⟩ | ⟨x, len, cap, m, n, D, Pl, h1, -, hl, -, hm, hd, hx⟩
  · simp only [List.cons.injEq, and_true] at h1
    subst h1
    exact ⟨none, 0, 0, [], rfl, rfl, .inl rfl, by show 0 ≤ _; omega, by omega⟩
  · simp only [List.cons.injEq, and_true] at h1
    subst h1
    simp only [if_true] at hm
    rw [hd, Rows.uptoBulk] at hb
    have hE : Rows.uptoBulkAll ((List.range len).map D) ≤ 1048576 := by omega
    have each : ∀ i, i < len → ∃ p : List Int × Option Addr × Nat, W.cell? (x.add i) = some (.slice p.2.1 p.1.length p.2.2) ∧ Arg W p.2.1 p.1.length p.2.2 p.1 ∧ p.1.length ≤ Rows.uptoBulk (D i) := by
      intro i hi
      obtain ⟨cs', h1, h2⟩ := hx i (by omega)
      rw [Try.cellsUS, Nat.mul_one] at h1
      obtain ⟨_, hlen, hc⟩ := World.cells?_some h1
      match cs', hlen with
      | [u], _ =>
        have hbi : Rows.uptoBulk (D i) ≤ 1048576 := Nat.le_trans (bulk_mem (List.mem_map.2 ⟨i, List.mem_range.2 hi, rfl⟩)) hE
        obtain ⟨zs, b, d, rfl, hp, hq⟩ := rowU_open h2 hbi
        have h0 := hc 0 (by decide)
        exact ⟨(zs, b, d), by simpa [Addr.add] using h0, hp, hq⟩
    obtain ⟨q, hq⟩ := chooseN ([], none, 0) each
    have hn : ∀ k, k < len → nthRw ((List.range len).map fun i => (q i).1) k = (q k).1 := fun k hk => by
      unfold nthRw; rw [List.getD_eq_getElem?_getD, List.getElem?_map, List.getElem?_range hk]; rfl
    have ht : totN ((List.range len).map fun i => (q i).1) ≤ Rows.uptoBulkAll ((List.range len).map D) := tot_bulk (f := fun i => (q i).1) _ fun i hi => (hq i (List.mem_range.1 hi)).2.2
    have hlb : len ≤ Rows.uptoBulkAll ((List.range len).map D) := by have := bulk_len ((List.range len).map D); simpa using this
    refine ⟨some x, len, cap, (List.range len).map fun i => (q i).1, rfl, by simp, ?_, by omega, by omega⟩
    by_cases h0 : 0 < len
    · right
      have hs := off_noneN (W := W) (x := x) (by have := (hq 0 h0).1; exact this)
      obtain ⟨b, off, sp⟩ := x
      simp only at hs
      subst hs
      refine ⟨b, off, rfl, fun k hk => ?_⟩
      have hk' : k < len := by simpa using hk
      rw [hn k hk']
      have c := (hq k hk').1
      rw [Addr.add_lit] at c
      exact ⟨_, _, c, (hq k hk').2.1⟩
    · left
      have e : len = 0 := by omega
      subst e
      rfl
end

set_option maxRecDepth 100000 in
theorem netEquation_contract (H : Type) (enc : TypeId × Value → H) (W : World) (base : Nat) (args : Array Value) (ds gs : List (DataW H)) (before : List MemPlace)
    (hval : ∀ (j : Nat) t v, Try.f6.params[j]? = some t → args[j]? = some v → Value.okWide Try.prog W .any base t v)
    (hW : DataW.Whole enc Try.prog Try.f6.params.toList Rows.netEquationSpec.vars false W args.toList ds gs before) (hk : Rows.uptoSmall H (ds ++ gs) = true) :
    Calls Try.prog 6 args W fun e W' => ∃ v, e = .returned v ∧ Rows.netEquationSpec.post enc Try.prog Try.f6 false true false false W args v W' := by
  have laidOut : laidOutB Try.prog = true := by kernel_rfl
  have hW' := hW
  obtain ⟨p, q, hA0, hV, rfl, hfz, hnd⟩ := hW
  have hA : DataW.TrodAll enc Try.prog W 0 (fun _ => true) true Try.f6.params.toList args.toList ds p := hA0
  rw [Try.params6] at hA hval
  obtain ⟨v0, vs0, d0, ds0, p0, q0, hargs, rfl, rfl, h0, r0⟩ := trodAll_cons hA
  obtain ⟨v1, vs1, d1, ds1, p1, q1, rfl, rfl, rfl, h1, r1⟩ := trodAll_cons r0
  obtain ⟨rfl, rfl, rfl⟩ := trodAll_nil r1
  obtain rfl : args = #[v0, v1] := by cases args; simp_all
  obtain ⟨rfl, rfl⟩ := trodVars_none hV
  have hB : Rows.uptoBulkAll [d0, d1] ≤ 1048576 := of_decide_eq_true hk
  simp only [Rows.uptoBulkAll] at hB
  have k0 := h0
  have lt0 : ∀ x ∈ p0, x.block < W.heap.size := by obtain ⟨m, hm⟩ := k0; exact DataW.trod_lt m _ _ _ hm
  obtain ⟨n0, a0, c0, e00, e10, rfl, x0, y0, z0, hd0, g0⟩ := net_open0 (hval 0 24 v0 rfl rfl) h0
  have w0 : ArgN W a0 c0 n0 := ⟨x0, y0, z0, by
    rcases g0 with ⟨-, e⟩ | ⟨E, S, e1, e⟩
    · omega
    · have hl := bulk_len E
      rw [hd0, e1] at hB
      simp only [Rows.uptoBulk, Rows.uptoBulkAll] at hB
      omega⟩
  obtain ⟨a1, len1, cap1, rfl⟩ := okWide_slice Try.underlying57 (hval 1 57 v1 rfl rfl)
  have k1 := h1
  have lt1 : ∀ x ∈ p1, x.block < W.heap.size := by obtain ⟨m, hm⟩ := k1; exact DataW.trod_lt m _ _ _ hm
  obtain ⟨z1, w1⟩ : ∃ I, ArgRw W a1 len1 I := by
    obtain ⟨fuel, hf⟩ := h1
    obtain ⟨a, l, c, I, hv, hI⟩ := rowsU_open (v := .slice a1 len1 cap1) hf (by show Rows.uptoBulk d1 ≤ _; omega)
    cases hv
    exact ⟨I, hI⟩
  clear hA0
  refine (netEquation_walk n0 a0 c0 a1 len1 cap1 z1 W (w0) (w1)).mono fun e W' ⟨he, bel⟩ => ?_
  subst he
  exact ⟨_, rfl, _, _, _, [], _, [], hW', trodAll_mk1 (shut_bool Try.underlying4 _), (trodAll_cons_mk (Below.trod laidOut (by kernel_rfl) (of_decide_eq_true (by kernel_rfl)) k0 bel lt0) (trodAll_cons_mk (Below.trod laidOut (by kernel_rfl) (of_decide_eq_true (by kernel_rfl)) k1 bel lt1) trodAll_mk0)), rfl, bel.frame _, fun h => by cases h⟩

set_option maxRecDepth 100000 in
theorem netEquation_lifted (os : Os) (started : os.Started) (H : Type) (enc : TypeId × Value → H) (F : Stop.Interp) :
    ReturnsInHanded {} Try.checked os 6 .any ((Rows.OpenSpec.upto Rows.netEquationSpec).pre6 enc Try.prog Try.f6 Rows.netEquationUptoRow.domain false) (((Rows.OpenSpec.upto Rows.netEquationSpec).at F).post enc Try.prog Try.f6 false true false false) := by
  have own : ownKnob Try.prog.godebug = none := by kernel_rfl
  refine returnsInHanded_of_cond (C := Try.checked) (s := Rows.OpenSpec.upto Rows.netEquationSpec) (k := Rows.uptoSmall) rfl own started (by kernel_rfl) Try.func6
    (OpenSpec.witness (enc := enc) (C := Try.checked) (s := Rows.OpenSpec.upto Rows.netEquationSpec) (k := Rows.uptoSmall) rfl false ⟨#[], #[.agg #[.int .i64 0, .slice none 0 0], .slice none 0 0], []⟩ 8 (by kernel_rfl) (by kernel_rfl) (by kernel_rfl)
      (x := ([.agg [.lit (.int .i64 0), .nil], .nil], [], [])) (by kernel_rfl) rfl (by kernel_rfl)) ?_
  intro W base args ds gs before hval hW _ hk _
  exact netEquation_contract H enc W base args ds gs before hval hW hk

theorem netEquationUpto_holds : Rows.NetEquationUptoSaid :=
  OpenClaim.holds_of_cond 6 Try.f6 rfl rfl rfl rfl rfl rfl rfl ⟨rfl, rfl, rfl, rfl, rfl⟩ rfl rfl rfl rfl rfl (by kernel_rfl) Try.func6 (by kernel_rfl)
    (of_decide_eq_true (by kernel_rfl)) (by unfold Func.isWrapper; first | (rw [if_pos (by decide +kernel)]; kernel_rfl) | (rw [if_neg (by decide +kernel)]; exact ⟨rfl, rfl⟩))
    (fun os started H enc _ F => netEquation_lifted os started H enc F)
#print axioms netEquationUpto_holds
end Go.Proofs.Ytancphohpedigaa

/- Texts of one chain, laid one behind the other. -/
import Derived.Test.YthgblljokonejaaGreatDoorPartSketchPrints2
import Derived.Test.YthgblljokonejaaGreatDoorPartSketchPrints4
import Derived.Test.YthgblljokonejaaGreatDoorPartSketchPrints3
import Derived.Test.YthgblljokonejaaGreatDoorPartSketchPrints1
import Derived.Test.YthgblljokonejaaGreatDoorChain24
import Derived.Test.YthgblljokonejaaGreatDoorChain28
/- The walk through the statement SketchLoose. (Written by tmpl/mkLoose.py.) -/
namespace Go.Proofs.YthgblljokonejaaGreatDoor
open Go.ChangeShapes Go.WideShapes Go.ChangeAt Go.RowKit

structure RB (V : World) (vb : Value) (l : List UInt8) (wr : World) : Prop where
  bytes : OwnB V.heap.size wr vb l
  bel : Below V.heap.size V wr
theorem RB.below {V vb l wr w'} (h : RB V vb l wr) (hb : Below wr.heap.size wr w') : RB V vb l w' := ⟨row_below h.bytes hb, h.bel.trans (hb.mono h.bel.size)⟩
theorem RB.shape {V vb l wr} (h : RB V vb l wr) : ∃ a cap, vb = .slice a l.length cap := by
  rcases h.bytes.2 with ⟨h1, h2⟩ | ⟨g, cap, cur, rfl, -⟩
  · exact ⟨none, 0, by rw [h1, h2]⟩
  · exact ⟨_, cap, rfl⟩
theorem RB.strA {V vb l wr v' w'} {m : List UInt8} (h : RB V vb l wr) (ho : w'.ownsRow V.heap.size 5 1 v' (l.length + (str m).size) (Lib.strCells (str l) ++ Lib.strCells (str m))) (hg : wr.grownBy w' vb.ownBlock) : RB V v' (l ++ m) w' := by
  refine ⟨?_, below_grownO h.bel hg (fun k e => (row_low h.bytes k e).1) h.bel.size⟩
  unfold OwnB
  rw [cells_append, List.length_append, ← str_size m]
  exact ho
theorem RB.chrA {V vb l wr v' w' o} (h : RB V vb l wr) (ho : w'.ownsRow V.heap.size 5 1 v' (l.length + 1) (Lib.strCells (str l) ++ [.int .u8 32])) (hg : (wr.alloc o).grownBy w' vb.ownBlock) : RB V v' (l ++ [32]) w' := by
  have h2 := h.below ((Below.refl wr.heap.size wr).alloc (Nat.le_refl _) o)
  refine ⟨?_, below_grownO h2.bel hg (fun k e => (row_low h2.bytes k e).1) h2.bel.size⟩
  unfold OwnB
  rw [cells_append, List.length_append]
  exact ho
theorem chr_new (wr : World) (x : Value) (t : TypeId) : ∀ j u, [x][j]? = some u → (wr.alloc (.cells #[x] t)).cell? ((⟨wr.heap.size, 0, none⟩ : Addr).add j) = some u := by
  intro j u hu
  match j, hu with
  | 0, hu => simp at hu; subst hu; simp [Addr.add]
theorem chr_one : ∀ u ∈ [Value.int .u8 32], u.oneCell' = true := by
  intro u hu; simp at hu; subst hu; rfl
theorem drew_below (w : World) (n : Nat) : Below w.heap.size w (w.drewN n) := bdrew (Below.refl _ _) n
theorem bT_len {ts : List Tok} (h : ∀ k, (spelt (nthT ts k)).length ≤ 20) : ∀ k, (bT ts k).length ≤ 21 * k
  | 0 => Nat.zero_le _
  | k + 1 => by
    rw [bT_succ, List.length_append, List.length_append]
    have := bT_len h k; have := h k
    have : (gapL ts.length k).length ≤ 1 := by unfold gapL; split <;> decide
    omega
theorem fine_len {ts : List Tok} (h : Fine ts) (k : Nat) : (spelt (nthT ts k)).length ≤ 20 := by
  rcases h k with ⟨h1, h2⟩ | ⟨h1, h2⟩
  · exact spelt_len h1 h2
  · unfold spelt
    rw [if_neg (by omega), h2]; decide
theorem fine_fits {ts : List Tok} (hl : ∀ t ∈ ts, In64 t.num) (k : Nat) : fits8 (nthT ts k).num = true := fits_of (nth_in5 hl k)
theorem same_place {l : List UInt8} {ts : List Tok} (hL : Laid l 0 ts) {i j : Nat} (hi : i < ts.length) (hj : j < ts.length) : ((nthT ts i).place = (nthT ts j).place) ↔ i = j := by
  refine ⟨fun e => ?_, fun e => by rw [e]⟩
  rcases Nat.lt_trichotomy i j with h | h | h
  · have := laid_rise ts 0 hL i j h hj; omega
  · exact h
  · have := laid_rise ts 0 hL j i h hi; omega
def wrongO (ts : List Tok) (fc : Int) (j i : Nat) : Int := if fc = 50 ∧ j < i then ((bT ts j).length : Int) else -1
theorem all_two (l : List UInt8) (W : World) (hE : Env W) : Calls Tryz.prog 15 #[.string (str l)] W fun e w' => ∃ a n c, e = .returned (.tuple #[.slice a n c, .agg #[.int .i64 (textG l).err, .int .i64 (textG l).place]]) ∧ Below W.heap.size W w' :=
  (all_any l W hE).mono fun _ w' ⟨v, he, hk, hb⟩ => by
    obtain ⟨a, c, rfl⟩ := hk.shape
    exact ⟨a, _, c, he, hb⟩
end Go.Proofs.YthgblljokonejaaGreatDoor

/- The document's form of a place (pianolaref05.at). -/
namespace Go.Proofs.YthgblljokonejaaGreatDoor
open Go.ChangeShapes Go.WideShapes Go.ChangeAt Go.RowKit

set_option maxRecDepth 100000 in
set_option maxHeartbeats 2000000 in
theorem rat_any (p : Plc) (W : World) (hn : p.name.length ≤ 16) (hp : -9223372036854775808 ≤ p.port ∧ p.port ≤ 9223372036854775807) (hi : (Lib.itoa p.port).length ≤ 20) :
    Calls Tryz.prog 55 #[plV p] W fun e w' => e = .returned (.string (str (placeT p))) ∧ Below W.heap.size W w' := by
  obtain ⟨nm, po, pl⟩ := p
  unfold plV placeT
  simp only at hn hp hi ⊢
  have hbA := (Below.refl W.heap.size W).alloc (Nat.le_refl _) (.cells #[.string (str nm), .int .i64 po, .int .i64 pl] 57)
  have HBA := hidden hbA
  have HIT : Hid (∀ w1, Below W.heap.size W w1 → Calls Tryz.prog 56 #[.int .i64 po] w1 fun e w' => e = .returned (.string (str (Lib.itoa po))) ∧ Below w1.heap.size w1 w') := fun w1 h1 => by rw [itoa_intS]; exact digits_any po w1 (fits_of hp)
  have hK := blk_new 57 W #[.string (str nm), .int .i64 po, .int .i64 pl]
  have d0 : (W.alloc (.cells #[.string (str nm), .int .i64 po, .int .i64 pl] 57)).cell? ⟨W.heap.size, 0, none⟩ = some (.string (str nm)) := hK.cell (k := 0) rfl
  have d1 : (W.alloc (.cells #[.string (str nm), .int .i64 po, .int .i64 pl] 57)).cell? ⟨W.heap.size, 1, none⟩ = some (.int .i64 po) := hK.cell (k := 1) rfl
  have hlt := hK.lt
  have s1 := str_size nm
  have s2 : (ByteArray.mk #[46]).size = 1 := rfl
  have s3 := str_size (nm ++ [46])
  have s4 := str_size (Lib.itoa po)
  have l1 : ¬ (9223372036854775807 < nm.length + 1) := by omega
  have l2 : ¬ (9223372036854775807 < nm.length + 1 + (Lib.itoa po).length) := by omega
  have j1 : str nm ++ ByteArray.mk #[46] = str (nm ++ [46]) := str_app nm [46]
  have j2 := str_app (nm ++ [46]) (Lib.itoa po)
  clear hK hbA
  go_enter Tryz.func55, Tryz.ntmps55
  go_wp2
  generalize hW0 : W.alloc (.cells #[.string (str nm), .int .i64 po, .int .i64 pl] 57) = W0 at *
  refine wp_region_said 7 (fun i u v => match i with
      | 0 => v = .pointer (some ⟨W.heap.size, 0, none⟩)
      | 1 => v = .string (str nm)
      | 2 => v = .string (str (nm ++ [46]))
      | 3 => v = .pointer (some ⟨W.heap.size, 1, none⟩)
      | 4 => v = .int .i64 po
      | 5 => v = .string (str (Lib.itoa po))
      | 6 => v = .string (str (nm ++ [46] ++ Lib.itoa po))
      | _ => True) (by kernel_rfl) (by kernel_rfl) (by kernel_rfl) (by kernel_rfl) ?_ ?_ ?_
  · intro i w v w' h hb
    match i, h with
    | 0, h => exact h
    | 1, h => exact h
    | 2, h => exact h
    | 3, h => exact h
    | 4, h => exact h
    | 5, h => exact h
    | 6, h => exact h
    | _ + 7, _ => trivial
  · intro i o ρ w' hi ho hb hc hf hfr hdep
    have LK : ∀ {a : Addr} {x : Value}, a.block < W0.heap.size → W0.cell? a = some x → w'.cell? a = some x := fun h1 h2 => (hb.cell h1).trans h2
    have k0 := LK hlt d0
    have k1 := LK hlt d1
    match i, hi with
    | 0, _ =>
      simp only [List.getElem?_toArray, List.getElem?_cons_zero, Option.some.injEq] at ho
      subst ho
      have ts : ρ (.tmp 1) = .pointer (some ⟨W.heap.size, 0, none⟩) := hfr 1 (by kernel_rfl)
      simp [go_sem, ts]
      exact ⟨Below.refl _ _, rfl⟩
    | 1, _ =>
      simp only [List.getElem?_toArray, List.getElem?_cons_zero, List.getElem?_cons_succ, Option.some.injEq] at ho
      subst ho
      have ts : ρ (.tmp 3) = .pointer (some ⟨W.heap.size, 0, none⟩) := hdep 0 3 (by kernel_rfl) (by kernel_rfl)
      simp [go_sem, ts, k0]
      exact ⟨Below.refl _ _, rfl⟩
    | 2, _ =>
      simp only [List.getElem?_toArray, List.getElem?_cons_zero, List.getElem?_cons_succ, Option.some.injEq] at ho
      subst ho
      have tq : ρ (.tmp 4) = .string (str nm) := hdep 1 4 (by kernel_rfl) (by kernel_rfl)
      simp [go_sem, tq, hc, s1, s2, j1, l1]
      exact ⟨Below.refl _ _, rfl⟩
    | 3, _ =>
      simp only [List.getElem?_toArray, List.getElem?_cons_zero, List.getElem?_cons_succ, Option.some.injEq] at ho
      subst ho
      have ts : ρ (.tmp 1) = .pointer (some ⟨W.heap.size, 0, none⟩) := hfr 1 (by kernel_rfl)
      simp [go_sem, ts]
      exact ⟨Below.refl _ _, rfl⟩
    | 4, _ =>
      simp only [List.getElem?_toArray, List.getElem?_cons_zero, List.getElem?_cons_succ, Option.some.injEq] at ho
      subst ho
      have ts : ρ (.tmp 6) = .pointer (some ⟨W.heap.size, 1, none⟩) := hdep 3 6 (by kernel_rfl) (by kernel_rfl)
      simp [go_sem, ts, k1]
      exact ⟨Below.refl _ _, rfl⟩
    | 5, _ =>
      simp only [List.getElem?_toArray, List.getElem?_cons_zero, List.getElem?_cons_succ, Option.some.injEq] at ho
      subst ho
      have tq : ρ (.tmp 7) = .int .i64 po := hdep 4 7 (by kernel_rfl) (by kernel_rfl)
      simp [go_sem, tq, hf]
      exact ⟨rfl, (HIT.out w' (HBA.out.trans (hb.mono HBA.out.size))).mono fun e u h => ⟨_, h.1, h.2, rfl⟩⟩
    | 6, _ =>
      simp only [List.getElem?_toArray, List.getElem?_cons_zero, List.getElem?_cons_succ, Option.some.injEq] at ho
      subst ho
      have t1 : ρ (.tmp 5) = .string (str (nm ++ [46])) := hdep 2 5 (by kernel_rfl) (by kernel_rfl)
      have t2 : ρ (.tmp 8) = .string (str (Lib.itoa po)) := hdep 5 8 (by kernel_rfl) (by kernel_rfl)
      simp [go_sem, t1, t2, s3, s4, j2, l2]
      exact ⟨Below.refl _ _, rfl⟩
  · intro V w9 q9 hS
    have e0 : V 0 = .pointer (some ⟨W.heap.size, 0, none⟩) := hS 0 (by decide)
    have e1 : V 1 = .string (str nm) := hS 1 (by decide)
    have e2 : V 2 = .string (str (nm ++ [46])) := hS 2 (by decide)
    have e3 : V 3 = .pointer (some ⟨W.heap.size, 1, none⟩) := hS 3 (by decide)
    have e4 : V 4 = .int .i64 po := hS 4 (by decide)
    have e5 : V 5 = .string (str (Lib.itoa po)) := hS 5 (by decide)
    have e6 : V 6 = .string (str (nm ++ [46] ++ Lib.itoa po)) := hS 6 (by decide)
    simp only [List.drop_succ_cons, List.drop_zero, List.take_succ_cons, List.take_zero, puts, e0, e1, e2, e3, e4, e5, e6]
    clear hS e0 e1 e2 e3 e4 e5 e6 V
    go_wp2
    go_ret
    exact ⟨by simp, HBA.out.trans (q9.mono HBA.out.size)⟩
end Go.Proofs.YthgblljokonejaaGreatDoor

/- Texts of one chain, laid one behind the other. -/
import Derived.Test.YtimioiaoefhabaaGreatPartPackPlaces25
import Derived.Test.YtimioiaoefhabaaGreatPartPackPlaces4
import Derived.Test.YtimioiaoefhabaaGreatPartPackPlaces19
import Derived.BigQuiet
namespace Go.Proofs.YtimioiaoefhabaaGreat
open Go.ChangeShapes Go.WideShapes Go.ChangeAt Go.RowKit
/-- Two numbers in a row of their own. -/
def SlX (u : World) (r1 r2 : Int) (z : Value) : Prop := ∃ g, z = .slice (some ⟨g, 0, none⟩) 2 2 ∧ u.cell? ⟨g, 0, none⟩ = some (.int .i64 r1) ∧ u.cell? ⟨g, 1, none⟩ = some (.int .i64 r2)
theorem SlX.later {u u' : World} {r1 r2 : Int} {z : Value} (h : SlX u r1 r2 z) (hb : Below u.heap.size u u') : SlX u' r1 r2 z := by
  obtain ⟨g, h1, h2, h3⟩ := h
  exact ⟨g, h1, cellN_later hb h2, cellN_later hb h3⟩
theorem slX_new (u : World) (r1 r2 : Int) : SlX (u.alloc (.cells #[.int .i64 r1, .int .i64 r2] 3)) r1 r2 (.slice (some ⟨u.heap.size, 0, none⟩) 2 2) := by
  have b := blkA_new 3 u #[.int .i64 r1, .int .i64 r2]
  exact ⟨_, rfl, b.cell rfl, b.cell rfl⟩
set_option maxRecDepth 100000 in
set_option maxHeartbeats 4000000 in
theorem turns1_anyX (x y bx : Nat) (v2 : Value) (am : Option Addr) (m cm : Nat) (pk : List Int) (W : World) (hb : BlkA 64 bx W #[.slice am m cm, v2]) (hp : At W am pk) (hm : pk.length = m) (hx : x < m) (hy : y < m) :
    Calls Tryz.prog 54 #[.int .i64 (x : Int), .int .i64 (y : Int), .pointer (some ⟨bx, 0, none⟩)] W fun e w' => e = .returned (.int .i64 (orX (cmpX (nth pk y) (nth pk x)) (cmpX (x : Int) (y : Int)))) ∧ ∃ q os, w' = Go.Sort.grow (W.drewN q) os := by
  have mixed : Tryz.prog.follows .mixedOrders = true := by kernel_rfl
  obtain ⟨PE, hPE⟩ : ∃ Q : Ending → World → Prop, (fun e w' => e = .returned (.int .i64 (orX (cmpX (nth pk y) (nth pk x)) (cmpX (x : Int) (y : Int)))) ∧ ∃ q os, w' = Go.Sort.grow (W.drewN q) os) = Q := ⟨_, rfl⟩
  rw [hPE]
  have HPE := hiddenN hPE
  have hxi : (x : Int) < (m : Int) := by omega
  have hyi : (y : Int) < (m : Int) := by omega
  rcases hp with e1 | ⟨ab, off, rfl, hc⟩
  · rw [e1] at hm; simp at hm; omega
  have c0 := hc x (by omega)
  have c1 := hc y (by omega)
  have z0 := hb.cell (k := 0) rfl
  simp only [List.getElem_toArray, List.getElem_cons_zero] at z0
  have C1 : Hid (∀ U, Calls Tryz.prog 56 #[.int .i64 (nth pk y), .int .i64 (nth pk x)] U fun e w' => e = .returned (.int .i64 (cmpX (nth pk y) (nth pk x))) ∧ w' = U) := fun U => compare_anyX _ _ U
  have C2 : Hid (∀ U, Calls Tryz.prog 56 #[.int .i64 (x : Int), .int .i64 (y : Int)] U fun e w' => e = .returned (.int .i64 (cmpX (x : Int) (y : Int))) ∧ w' = U) := fun U => compare_anyX _ _ U
  generalize cmpX (nth pk y) (nth pk x) = r1 at *
  generalize cmpX (x : Int) (y : Int) = r2 at *
  generalize nth pk x = px at *
  generalize nth pk y = py at *
  clear hPE hc hb hm hx hy
  go_enter Tryz.func54, Tryz.ntmps54
  go_upto_region 1 with fail
  refine wp_region_saidD 16 (fun i u v => match i with
      | 0 => v = .pointer (some ⟨bx, 0, none⟩)
      | 1 => v = .slice (some ⟨ab, off, none⟩) m cm
      | 2 => v = .int .i64 (y : Int)
      | 3 => v = .pointer (some ⟨ab, off + y, none⟩)
      | 4 => v = .int .i64 py
      | 5 => v = .pointer (some ⟨bx, 0, none⟩)
      | 6 => v = .slice (some ⟨ab, off, none⟩) m cm
      | 7 => v = .int .i64 (x : Int)
      | 8 => v = .pointer (some ⟨ab, off + x, none⟩)
      | 9 => v = .int .i64 px
      | 10 => v = .int .i64 r1
      | 11 => v = .int .i64 (x : Int)
      | 12 => v = .int .i64 (y : Int)
      | 13 => v = .int .i64 r2
      | 14 => SlX u r1 r2 v
      | 15 => v = .int .i64 (orX r1 r2)
      | _ => True) (by kernel_rfl) (by kernel_rfl) (by kernel_rfl) (by kernel_rfl) ?_ ?_ ?_
  · intro i w v w' h hb
    match i, h with
    | 0, h => exact h
    | 1, h => exact h
    | 2, h => exact h
    | 3, h => exact h
    | 4, h => exact h
    | 5, h => exact h
    | 6, h => exact h
    | 7, h => exact h
    | 8, h => exact h
    | 9, h => exact h
    | 10, h => exact h
    | 11, h => exact h
    | 12, h => exact h
    | 13, h => exact h
    | 14, h => exact h.later hb.bel
    | 15, h => exact h
    | _ + 16, _ => trivial
  · intro i o ρ w' hi ho hb hc hf hfr hdep
    have k0 := cellN_later hb.bel z0
    have k1 := cellN_later hb.bel c1
    have k2 := cellN_later hb.bel c0
    match i, hi with
    | 0, _ =>
      simp only [gTA, gCZ, gSI] at ho
      subst ho
      have ts : ρ (.tmp 2) = .pointer (some ⟨bx, 0, none⟩) := hfr 2 (by kernel_rfl)
      simp [go_sem, ts]
      exact ⟨BelD.refl _ _, rfl⟩
    | 1, _ =>
      simp only [gTA, gCZ, gCS, gSI] at ho
      subst ho
      have ts : ρ (.tmp 6) = .pointer (some ⟨bx, 0, none⟩) := hdep 0 6 (by kernel_rfl) (by kernel_rfl)
      simp [go_sem, ts, k0]
      exact ⟨BelD.refl _ _, rfl⟩
    | 2, _ =>
      simp only [gTA, gCZ, gCS, gSI] at ho
      subst ho
      have ts : ρ (.tmp 1) = .int .i64 (y : Int) := hfr 1 (by kernel_rfl)
      simp [go_sem, ts]
      exact ⟨BelD.refl _ _, rfl⟩
    | 3, _ =>
      simp only [gTA, gCZ, gCS, gSI] at ho
      subst ho
      have t0 : ρ (.tmp 7) = .slice (some ⟨ab, off, none⟩) m cm := hdep 1 7 (by kernel_rfl) (by kernel_rfl)
      have t1 : ρ (.tmp 8) = .int .i64 (y : Int) := hdep 2 8 (by kernel_rfl) (by kernel_rfl)
      simp [go_sem, t0, t1, hyi]
      exact ⟨BelD.refl _ _, rfl⟩
    | 4, _ =>
      simp only [gTA, gCZ, gCS, gSI] at ho
      subst ho
      have ts : ρ (.tmp 9) = .pointer (some ⟨ab, off + y, none⟩) := hdep 3 9 (by kernel_rfl) (by kernel_rfl)
      simp [go_sem, ts, k1]
      exact ⟨BelD.refl _ _, rfl⟩
    | 5, _ =>
      simp only [gTA, gCZ, gCS, gSI] at ho
      subst ho
      have ts : ρ (.tmp 2) = .pointer (some ⟨bx, 0, none⟩) := hfr 2 (by kernel_rfl)
      simp [go_sem, ts]
      exact ⟨BelD.refl _ _, rfl⟩
    | 6, _ =>
      simp only [gTA, gCZ, gCS, gSI] at ho
      subst ho
      have ts : ρ (.tmp 11) = .pointer (some ⟨bx, 0, none⟩) := hdep 5 11 (by kernel_rfl) (by kernel_rfl)
      simp [go_sem, ts, k0]
      exact ⟨BelD.refl _ _, rfl⟩
    | 7, _ =>
      simp only [gTA, gCZ, gCS, gSI] at ho
      subst ho
      have ts : ρ (.tmp 0) = .int .i64 (x : Int) := hfr 0 (by kernel_rfl)
      simp [go_sem, ts]
      exact ⟨BelD.refl _ _, rfl⟩
    | 8, _ =>
      simp only [gTA, gCZ, gCS, gSI] at ho
      subst ho
      have t0 : ρ (.tmp 12) = .slice (some ⟨ab, off, none⟩) m cm := hdep 6 12 (by kernel_rfl) (by kernel_rfl)
      have t1 : ρ (.tmp 13) = .int .i64 (x : Int) := hdep 7 13 (by kernel_rfl) (by kernel_rfl)
      simp [go_sem, t0, t1, hxi]
      exact ⟨BelD.refl _ _, rfl⟩
    | 9, _ =>
      simp only [gTA, gCZ, gCS, gSI] at ho
      subst ho
      have ts : ρ (.tmp 14) = .pointer (some ⟨ab, off + x, none⟩) := hdep 8 14 (by kernel_rfl) (by kernel_rfl)
      simp [go_sem, ts, k2]
      exact ⟨BelD.refl _ _, rfl⟩
    | 10, _ =>
      simp only [gTA, gCZ, gCS, gSI] at ho
      subst ho
      have t0 : ρ (.tmp 10) = .int .i64 py := hdep 4 10 (by kernel_rfl) (by kernel_rfl)
      have t1 : ρ (.tmp 15) = .int .i64 px := hdep 9 15 (by kernel_rfl) (by kernel_rfl)
      simp [go_sem, t0, t1, hf]
      exact ⟨rfl, (C1.out w').mono fun e w'' ⟨e1, e2⟩ => ⟨_, e1, by rw [e2]; exact BelD.refl _ _, rfl⟩⟩
    | 11, _ =>
      simp only [gTA, gCZ, gCS, gSI] at ho
      subst ho
      have ts : ρ (.tmp 0) = .int .i64 (x : Int) := hfr 0 (by kernel_rfl)
      simp [go_sem, ts]
      exact ⟨BelD.refl _ _, rfl⟩
    | 12, _ =>
      simp only [gTA, gCZ, gCS, gSI] at ho
      subst ho
      have ts : ρ (.tmp 1) = .int .i64 (y : Int) := hfr 1 (by kernel_rfl)
      simp [go_sem, ts]
      exact ⟨BelD.refl _ _, rfl⟩
    | 13, _ =>
      simp only [gTA, gCZ, gCS, gSI] at ho
      subst ho
      have t0 : ρ (.tmp 17) = .int .i64 (x : Int) := hdep 11 17 (by kernel_rfl) (by kernel_rfl)
      have t1 : ρ (.tmp 18) = .int .i64 (y : Int) := hdep 12 18 (by kernel_rfl) (by kernel_rfl)
      simp [go_sem, t0, t1, hf]
      exact ⟨rfl, (C2.out w').mono fun e w'' ⟨e1, e2⟩ => ⟨_, e1, by rw [e2]; exact BelD.refl _ _, rfl⟩⟩
    | 14, _ =>
      simp only [gTA, gCZ, gCS, gSI] at ho
      subst ho
      have t0 : ρ (.tmp 16) = .int .i64 r1 := hdep 10 16 (by kernel_rfl) (by kernel_rfl)
      have t1 : ρ (.tmp 19) = .int .i64 r2 := hdep 13 19 (by kernel_rfl) (by kernel_rfl)
      simp [go_sem, t0, t1]
      exact ⟨(BelD.refl _ _).alloc (Nat.le_refl _) _, slX_new _ _ _⟩
    | 15, _ =>
      simp only [gTA, gCZ, gCS, gSI] at ho
      subst ho
      obtain ⟨g, e0, g0, g1⟩ : SlX w' r1 r2 (ρ (.tmp 20)) := hdep 14 20 (by kernel_rfl) (by kernel_rfl)
      simp [go_sem, e0, hf]
      exact ⟨rfl, (or_anyX g r1 r2 w' g0 g1).mono fun e w'' ⟨e1, e2⟩ => ⟨_, e1, by rw [e2]; exact BelD.refl _ _, rfl⟩⟩
    | k + 16, h => exact absurd h (by omega)
  · intro V w9 q9 hS
    have e15 : V 15 = .int .i64 (orX r1 r2) := hS 15 (by decide)
    simp only [List.drop_succ_cons, List.drop_zero, List.take_succ_cons, List.take_zero, puts, e15]
    simp only [Act.put, List.setIfInBounds_toArray, List.set_cons_zero, List.set_cons_succ]
    have HG := hiddenN q9.grown
    clear hS e15 q9
    go_wp2
    rw [← HPE.out]
    exact ⟨rfl, HG.out⟩
theorem orX_lt {r1 r2 : Int} : orX r1 r2 < 0 ↔ r1 < 0 ∨ r1 = 0 ∧ r2 < 0 := by
  unfold orX
  split <;> omega
theorem cmpX_bef {pk : List Int} {x y : Nat} : orX (cmpX (nth pk y) (nth pk x)) (cmpX (x : Int) (y : Int)) < 0 ↔ BefP (nth pk) x y := by
  rw [orX_lt, cmpX_lt, cmpX_zero, cmpX_lt]
  unfold BefP
  omega
theorem swo_befX (pk : List Int) (k : Nat) : Go.Sort.SWO (ltOf fun x y : Fin (k + 1) => orX (cmpX (nth pk y.val) (nth pk x.val)) (cmpX (x.val : Int) (y.val : Int))) := by
  have e : ∀ x y : Fin (k + 1), (ltOf (fun x y : Fin (k + 1) => orX (cmpX (nth pk y.val) (nth pk x.val)) (cmpX (x.val : Int) (y.val : Int))) x y = true) ↔ BefP (nth pk) x.val y.val := fun x y => by
    unfold ltOf
    rw [decide_eq_true_iff]
    exact cmpX_bef
  have f : ∀ x y : Fin (k + 1), (ltOf (fun x y : Fin (k + 1) => orX (cmpX (nth pk y.val) (nth pk x.val)) (cmpX (x.val : Int) (y.val : Int))) x y = false) ↔ ¬ BefP (nth pk) x.val y.val := fun x y => by
    rw [← e, Bool.not_eq_true]
  refine ⟨fun x => ?_, fun x y z h1 h2 => ?_, fun x y z h1 h2 => ?_⟩
  · rw [f]; unfold BefP; omega
  · rw [e] at *; exact h1.trans h2
  · rw [f] at *
    unfold BefP at *
    omega
theorem idV_len (m : Nat) : ((List.range m).map Int.ofNat).length = m := by rw [List.length_map, List.length_range]
set_option maxRecDepth 100000 in
set_option maxHeartbeats 2000000 in
theorem sort_inX {B : Nat} (bx : Nat) (v2 : Value) (am : Option Addr) (m cm : Nat) (pk : List Int) (g : Nat) (W : World) (h : CapR B W (some ⟨g, 0, none⟩) m ((List.range m).map Int.ofNat)) (hB : B ≤ W.heap.size) (hb : BlkA 64 bx W #[.slice am m cm, v2]) (hp : At W am pk) (hm : pk.length = m) (hn : m ≤ 1000000) (hbg : bx < B) (hlo : ∀ y, am = some y → y.block < B) :
    Calls Tryz.prog 53 #[.slice (some ⟨g, 0, none⟩) m m, .func (.func 54) #[] #[.pointer (some ⟨bx, 0, none⟩)]] W fun e w' => e = .returned (.tuple #[]) ∧ ∃ l : List Nat, l.length = m ∧ l.Pairwise (BefP (nth pk)) ∧ (∀ i, i ∈ l ↔ i < m) ∧ CapR B w' (some ⟨g, 0, none⟩) m (l.map Int.ofNat) ∧ Below B W w' := by
  cases m with
  | zero =>
    have q := AnyF.slices_SortFunc_none Tryz.laysSlF06_f53 (some ⟨g, 0, none⟩) 0 (.func (.func 54) #[] #[.pointer (some ⟨bx, 0, none⟩)]) W
    change Calls Tryz.prog 53 _ _ _ at q
    refine q.mono ?_
    rintro e w' ⟨rfl, rfl⟩
    exact ⟨rfl, [], rfl, List.Pairwise.nil, fun i => ⟨(fun q => by cases q), fun q => absurd q (Nat.not_lt_zero _)⟩, h, Below.refl _ _⟩
  | succ k =>
    obtain ⟨d, hd⟩ : ∃ d : Array (Fin (k + 1)), d = (List.finRange (k + 1)).toArray := ⟨_, rfl⟩
    have hds : d.size = k + 1 := by rw [hd]; simp
    have hdl : d.toList.map (fun i : Fin (k + 1) => Value.int .i64 ((i.val : Nat) : Int)) = ((List.range (k + 1)).map Int.ofNat).map (Value.int .i64) := by
      rw [hd, List.toList_toArray, List.map_map]
      have : List.range (k + 1) = (List.finRange (k + 1)).map (·.val) := List.ext_getElem (by rw [List.length_range, List.length_map, List.length_finRange]) fun i h1 h2 => by rw [List.getElem_range, List.getElem_map, List.getElem_finRange]; rfl
      rw [this, List.map_map]
      rfl
    have hO : W.ownsRow B 3 1 (.slice (some ⟨g, 0, none⟩) (k + 1) (k + 1)) (k + 1) (d.toList.map fun i : Fin (k + 1) => Value.int .i64 ((i.val : Nat) : Int)) := by
      rw [hdl]
      have q := h
      unfold CapR at q
      rw [idV_len] at q
      exact q
    have hH : Go.Sort.Holds (fun i : Fin (k + 1) => Value.int .i64 ((i.val : Nat) : Int)) W g 0 d := own_holds (by rw [hds, Nat.mul_one]) hO
    have eg : ∀ args w, (callFunc 54 args).run Tryz.prog w = .ok (.enter 54 args) w := enters_of Tryz.func54 (by kernel_rfl) rfl
    have hgw := (h.lt _ rfl)
    have hcmp : CmpLays1 Tryz.prog 54 #[.pointer (some ⟨bx, 0, none⟩)] (fun i : Fin (k + 1) => Value.int .i64 ((i.val : Nat) : Int)) (fun x y => orX (cmpX (nth pk y.val) (nth pk x.val)) (cmpX (x.val : Int) (y.val : Int))) g 0 d.size W := fun n os dk hdk x y => by
      have hk : Below B W (Go.Sort.grow (Go.Sort.putRow (fun i : Fin (k + 1) => Value.int .i64 ((i.val : Nat) : Int)) (Go.Sort.ahead W n) g 0 dk) os) := (own_sorted (enc := fun i : Fin (k + 1) => Value.int .i64 ((i.val : Nat) : Int)) (d := dk) (n := k + 1) (size := 1) (by rw [hdk, hds, Nat.mul_one]) hO hB n os).2
      exact turns1_anyX x.val y.val bx v2 am (k + 1) cm pk _ (hb.keep (hk.block bx hbg)) (hp.keep fun y hy => hk.block _ (hlo y hy)) hm x.isLt y.isLt
    have q := Any.slices_SortFunc Tryz.laysSlF6_f53 (fun i : Fin (k + 1) => Value.int .i64 ((i.val : Nat) : Int)) (fun _ => rfl) (fun x y => orX (cmpX (nth pk y.val) (nth pk x.val)) (cmpX (x.val : Int) (y.val : Int))) (swo_befX pk k) 54 #[.pointer (some ⟨bx, 0, none⟩)] g 0 (k + 1) d W eg hcmp hH hgw.2 (by rw [hds]; omega)
    change Calls Tryz.prog 53 _ _ _ at q
    rw [hds] at q
    refine q.mono ?_
    rintro e w' ⟨rfl, d', n, os, hpm, hsd, rfl⟩
    have hp' := perm_of (d := d) (by rw [hds]; exact hpm)
    have hl : d'.size = k + 1 := by have := hpm.1; rw [hds] at this; exact this
    obtain ⟨r1, r2⟩ := own_sorted (enc := fun i : Fin (k + 1) => Value.int .i64 ((i.val : Nat) : Int)) (d := d') (n := k + 1) (size := 1) (by rw [hl, Nat.mul_one]) hO hB n os
    refine ⟨rfl, d'.toList.map (·.val), by rw [List.length_map, Array.length_toList, hl], ?_, fun i => ?_, ?_, r2⟩
    · rw [List.pairwise_map]
      have hnd : d'.toList.Nodup := hp'.nodup_iff.2 (by rw [hd, List.toList_toArray]; exact List.nodup_finRange _)
      refine ((sorted_of hl hsd).and hnd).imp fun {x y} hh => ?_
      obtain ⟨h1, h2⟩ := hh
      have h3 : ¬ BefP (nth pk) y.val x.val := fun q => by
        unfold ltOf at h1
        rw [decide_eq_true (cmpX_bef.2 q)] at h1
        cases h1
      rcases bef_or (nth pk) (i := x.val) (j := y.val) (fun e => h2 (Fin.ext e)) with q | q
      · exact q
      · exact absurd q h3
    · rw [List.mem_map]
      constructor
      · rintro ⟨x, -, rfl⟩; exact x.isLt
      · intro hi
        exact ⟨⟨i, hi⟩, hp'.mem_iff.2 (by rw [hd, List.toList_toArray]; exact List.mem_finRange _), rfl⟩
    · unfold CapR
      have e3 : ((d'.toList.map (·.val)).map Int.ofNat).map (Value.int .i64) = d'.toList.map fun i : Fin (k + 1) => Value.int .i64 ((i.val : Nat) : Int) := by
        rw [List.map_map, List.map_map]; rfl
      rw [e3]
      have e4 : ((d'.toList.map (·.val)).map Int.ofNat).length = k + 1 := by rw [List.length_map, List.length_map, Array.length_toList, hl]
      rw [e4]
      exact r1
def prI (p : Nat × Nat) : Int × Int := ((p.1 : Int), (p.2 : Int))
/-- The pairs that Clash answers. -/
def cloL (n : NN) (zs : List Int) : List (Int × Int) := if codeV n zs = 0 then (prsV (cloV (rowsV n (startT n) zs)) n.arcs.length).map prI else []
/-- What is left of the pairs: from the arc k on; of the arc k those from j on. -/
def lefK (c : Nat → Nat → Bool) (m k : Nat) : List (Int × Int) := (prsL c (List.range' k (m - k))).map prI
def lefJ (c : Nat → Nat → Bool) (m k j : Nat) : List (Int × Int) := ((List.range' j (m - j)).filter (c k)).map (fun j : Nat => ((k : Int), (j : Int))) ++ lefK c m (k + 1)
theorem lefK_zero (c : Nat → Nat → Bool) (m : Nat) : lefK c m 0 = (prsV c m).map prI := by
  unfold lefK prsV
  rw [Nat.sub_zero, List.range_eq_range']
theorem lefK_cut {c : Nat → Nat → Bool} {m k : Nat} (h : k < m) : lefK c m k = lefJ c m k (k + 1) := by
  unfold lefJ lefK
  rw [show m - k = (m - (k + 1)) + 1 by omega, List.range'_succ, prsL, List.map_append, List.map_map]
  rfl
theorem lefK_end {c : Nat → Nat → Bool} {m k : Nat} (h : m ≤ k) : lefK c m k = [] := by
  unfold lefK
  rw [show m - k = 0 by omega]; rfl
theorem lefJ_end {c : Nat → Nat → Bool} {m k j : Nat} (h : m ≤ j) : lefJ c m k j = lefK c m (k + 1) := by
  unfold lefJ
  rw [show m - j = 0 by omega]; rfl
theorem lefJ_cut {c : Nat → Nat → Bool} {m k j : Nat} (h : j < m) : lefJ c m k j = if c k j = true then ((k : Int), (j : Int)) :: lefJ c m k (j + 1) else lefJ c m k (j + 1) := by
  unfold lefJ
  rw [show m - j = (m - (j + 1)) + 1 by omega, List.range'_succ]
  by_cases e : c k j = true
  · rw [if_pos e, List.filter_cons_of_pos e]; rfl
  · rw [if_neg e, List.filter_cons_of_neg e]
theorem capPp_ne {B : Nat} {w : World} {d : Option Addr} {c : Nat} {L : List (Int × Int)} (h : CapPp B w d c L) {T b : Nat} {cs : Array Value} (hT : T ≠ 34) (hb : BlkA T b w cs) : ∀ y, d = some y → y.block ≠ b := by
  intro y hy e
  unfold CapPp at h
  rcases h.2 with ⟨hv, -⟩ | ⟨g, cap, cur, hv, hg, hh, -⟩
  · simp at hv; rw [hv.1] at hy; cases hy
  · cases hv
    cases hy
    have e2 : g = b := e
    rw [e2] at hh
    have hb' : w.heap[b]? = some (.cells cs T) := hb
    rw [hh] at hb'
    cases hb'
    exact hT rfl
/-- How Clash ends. -/
def CloE (n : NN) (zs : List Int) (w : World) (e : Ending) (w' : World) : Prop := ∃ d c', e = .returned (.tuple #[.slice d (cloL n zs).length c', .int .i64 (codeV n zs)]) ∧ CapPp w.heap.size w' d c' (cloL n zs) ∧ Below w.heap.size w w'
theorem cloL_few {n : NN} {zs : List Int} (h : codeV n zs = 0) : ∀ L M : List (Int × Int), L ++ M = cloL n zs → L.length ≤ 1000000 := by
  intro L M e
  have hm := (check_sound (code_zero h).1).most
  have h1 : L.length ≤ (cloL n zs).length := by rw [← e, List.length_append]; omega
  have h2 : (cloL n zs).length ≤ 96 * 96 := by
    unfold cloL
    rw [if_pos h, List.length_map]
    have hd : (prsV (cloV (rowsV n (startT n) zs)) n.arcs.length).Nodup := (prsV_rise _ _).imp fun {p q} hh e => by subst e; unfold LexP at hh; omega
    have q := few_nodup (96 * 96) (l := (prsV (cloV (rowsV n (startT n) zs)) n.arcs.length).map fun p => p.1 * 96 + p.2) ?_ ?_
    · rwa [List.length_map] at q
    · rw [List.nodup_iff_pairwise_ne, List.pairwise_map]
      refine (List.pairwise_iff_forall_sublist.2 fun {p q} hs e => ?_)
      have hp := mem_prsV.1 (hs.subset (List.mem_cons_self ..))
      have hq := mem_prsV.1 (hs.subset (List.mem_cons_of_mem _ (List.mem_cons_self ..)))
      have hne : p ≠ q := by
        have := (hd.sublist hs)
        rw [List.nodup_cons] at this
        intro e2
        exact this.1 (by rw [e2]; exact List.mem_cons_self ..)
      apply hne
      obtain ⟨p1, p2⟩ := p
      obtain ⟨q1, q2⟩ := q
      simp only at hp hq e
      have : p1 = q1 := by omega
      have : p2 = q2 := by omega
      subst_vars; rfl
    · intro x hx
      obtain ⟨p, hp, rfl⟩ := List.mem_map.1 hx
      have hp := mem_prsV.1 hp
      omega
  omega
set_option maxRecDepth 100000 in
set_option maxHeartbeats 8000000 in
theorem clashes_anyX (n : NN) (a : Option Addr) (c : Nat) (W : World) (h : AtN W a n.arcs) (hroom : n.arcs.length ≤ 4611686018427387904) (hna : a = none → n.arcs.length = 0 ∧ c = 0) (al : Option Addr) (cl : Nat) (zs : List Int) (hz : At W al zs) (hzl : zs.length ≤ 4611686018427387904) :
    Calls Tryz.prog 8 #[.agg #[.int .i64 n.nodes, .slice a n.arcs.length c], .slice al zs.length cl] W (CloE n zs W) := by
  obtain ⟨PE, hPE⟩ : ∃ Q, CloE n zs W = Q := ⟨_, rfl⟩
  rw [hPE]
  have HPE := hiddenN hPE
  have b0 := (Below.refl W.heap.size W).alloc (Nat.le_refl _) (.cells #[.int .i64 n.nodes, .slice a n.arcs.length c] 24)
  have B0 := hiddenN b0
  have G0 := hiddenN (blkA_new 24 W #[.int .i64 n.nodes, .slice a n.arcs.length c])
  have AL := hiddenN (along_any n a c _ (h.below b0) hroom hna al cl zs (hz.below b0) hzl)
  have z0 := G0.out.cell (k := 0) rfl
  have z1 := G0.out.cell (k := 1) rfl
  simp only [List.getElem_toArray, List.getElem_cons_zero, List.getElem_cons_succ] at z0 z1
  clear hPE b0 h hz hna
  by_cases hc : codeV n zs = 0
  · have hl := (code_zero hc).2.1
    have AY : Hid (Calls Tryz.prog 20 #[.agg #[.int .i64 n.nodes, .slice a n.arcs.length c], .slice al zs.length cl] (W.alloc (.cells #[.int .i64 n.nodes, .slice a n.arcs.length c] 24)) fun e w' => ∃ v, e = .returned (.tuple #[v, .int .i64 0]) ∧ LsV w' v (rowsV n (startT n) zs) ∧ Below (W.alloc (.cells #[.int .i64 n.nodes, .slice a n.arcs.length c] 24)).heap.size (W.alloc (.cells #[.int .i64 n.nodes, .slice a n.arcs.length c] 24)) w') := AL.out.mono fun e w' hh => by
      rcases hh with ⟨-, B, v, e1, -, -, q1, q2⟩ | ⟨k1, -⟩
      · exact ⟨v, e1, q1.ls, q2⟩
      · exact absurd hc k1
    have HRL : Hid (∀ k, k < (rowsV n (startT n) zs).length → (nthLV (rowsV n (startT n) zs) k).length = n.arcs.length) := fun k hk => by
      rw [rows_len] at hk
      rw [row_lenV (by omega), start_len]
    have HR6 : Hid ((rowsV n (startT n) zs).length ≤ 1000000) := by show _ ≤ _; rw [rows_len]; omega
    have HT : Hid (cloL n zs = lefK (cloV (rowsV n (startT n) zs)) n.arcs.length 0) := by show _ = _; unfold cloL; rw [if_pos hc, lefK_zero]
    have HFW := hiddenN (cloL_few hc)
    have HC := hiddenN hc
    have HEND : Hid (∀ (wz : World) d c', CapPp W.heap.size wz d c' (cloL n zs) → Below W.heap.size W wz → PE (.returned (.tuple #[.slice d (cloL n zs).length c', .int .i64 0])) wz) := fun wz d c' q1 q2 => by
      rw [← HPE.out]
      exact ⟨d, c', by rw [hc], q1, q2⟩
    clear AL hc HPE
    generalize rowsV n (startT n) zs = R at *
    generalize cloL n zs = T at *
    obtain ⟨N, hN⟩ : ∃ N, n.arcs.length = N := ⟨_, rfl⟩
    rw [hN] at HRL HT AY z0 z1 hroom G0 B0 ⊢
    clear hN
    go_enter Tryz.func8, Tryz.ntmps8
    go_upto_region 1 with fail
    generalize W.alloc (.cells #[.int .i64 n.nodes, .slice a N c] 24) = W1 at *
    go_upto_region 5 with (go_at_call 20; go_loud ((with_reducible refine AY.out.mono ?_); rintro e W2 ⟨v, rfl, q1, q2⟩; have LS := hiddenN q1; have B2 := hiddenN q2; clear q1 q2))
    have z1 := (G0.out.below B2.out).cell (k := 1) rfl
    simp only [List.getElem_toArray, List.getElem_cons_zero, List.getElem_cons_succ] at z1
    obtain ⟨Q, hQ⟩ : ∃ q, W2.heap.size = q := ⟨_, rfl⟩
    have HQ := hiddenN hQ
    have HWQ : Hid (W.heap.size ≤ Q) := by show _ ≤ _; rw [← hQ]; exact Nat.le_trans B0.out.size B2.out.size
    have G2 := hiddenN (G0.out.below B2.out)
    clear hQ AY
    go_wp2
    go_loopg [8, 24] N (fun gk u8 u24 wr => ∃ (k : Nat) (d : Option Addr) (c' : Nat) (L : List (Int × Int)), k ≤ N ∧ gk = N - k ∧ u24 = .int .i64 (k : Int) ∧ u8 = .slice d L.length c' ∧ CapPp Q wr d c' L ∧ Below Q W2 wr ∧ L ++ lefK (cloV R) N k = T)
    case atStart => exact ⟨0, none, 0, [], Nat.zero_le _, rfl, rfl, rfl, CapPp.nil _ _, Below.refl _ _, by rw [List.nil_append]; exact HT.out.symm⟩
    case round =>
      obtain ⟨k, d, c', L, hk, rfl, rfl, rfl, hC, hB, hL⟩ := hrel
      have HCp := hiddenN hC
      have HB := hiddenN hB
      have HLL := hiddenN hL
      clear hC hB hL
      by_cases hlt : k < N
      · have hki : (k : Int) < (N : Int) := by omega
        have HLJ : Hid (L ++ lefJ (cloV R) N k (k + 1) = T) := by show _ = _; rw [← lefK_cut hlt]; exact HLL.out
        have hQw : Q ≤ wr.heap.size := by have := HB.out.size; have := HQ.out; omega
        have w1 : IntKind.i64.wrap ((k : Int) + 1) = (k : Int) + 1 := by rw [IntKind.wrap_i64]; omega
        have X1 := hiddenN (blkA_new 3 wr #[.int .i64 (k : Int)])
        have X2 := hiddenN (blkA_new 3 (wr.alloc (.cells #[.int .i64 (k : Int)] 3)) #[.int .i64 ((k : Int) + 1)])
        have y1 : Hid (Below wr.heap.size wr (wr.alloc (.cells #[.int .i64 (k : Int)] 3))) := (Below.refl _ _).alloc (Nat.le_refl _) _
        have y2 : Hid (Below (wr.alloc (.cells #[.int .i64 (k : Int)] 3)).heap.size (wr.alloc (.cells #[.int .i64 (k : Int)] 3)) ((wr.alloc (.cells #[.int .i64 (k : Int)] 3)).alloc (.cells #[.int .i64 ((k : Int) + 1)] 3))) := (Below.refl _ _).alloc (Nat.le_refl _) _
        have hs1 : (wr.alloc (.cells #[.int .i64 (k : Int)] 3)).heap.size = wr.heap.size + 1 := World.size_alloc ..
        have X1' := hiddenN (X1.out.below y2.out)
        have HB3 := hiddenN ((HB.out.trans (y1.out.mono hQw)).trans (y2.out.mono (by rw [hs1]; omega)))
        have HC3 := hiddenN ((HCp.out.later y1.out).later y2.out)
        rw [hs1] at X2
        clear HLL X1 y1 y2 HB HCp
        go_upto_region 8 with fail
        go_wp2
        generalize (wr.alloc (.cells #[.int .i64 (k : Int)] 3)).alloc (.cells #[.int .i64 ((k : Int) + 1)] 3) = W3 at *
        obtain ⟨b1, hb1⟩ : ∃ q, wr.heap.size = q := ⟨_, rfl⟩
        have HX1 : Hid (BlkA 3 b1 W3 #[.int .i64 (k : Int)] ∧ Q ≤ b1) := ⟨by rw [← hb1]; exact X1'.out, by omega⟩
        have HX2 : Hid (BlkA 3 (b1 + 1) W3 #[.int .i64 (((k + 1 : Nat)) : Int)]) := by
          show BlkA _ _ _ _
          rw [← hb1]
          exact X2.out
        rw [hb1]
        clear X1' X2 hs1 hb1
        go_loopg [8, 10] (N - (k + 1)) (fun gk u8 u10 wq => ∃ (j : Nat) (d : Option Addr) (c' : Nat) (L : List (Int × Int)) (b2 : Nat), k < j ∧ j ≤ N ∧ gk = N - j ∧ u10 = .pointer (some ⟨b2, 0, none⟩) ∧ u8 = .slice d L.length c' ∧ CapPp Q wq d c' L ∧ BlkA 3 b2 wq #[.int .i64 (j : Int)] ∧ Q ≤ b2 ∧ BlkA 3 b1 wq #[.int .i64 (k : Int)] ∧ Below Q W2 wq ∧ L ++ lefJ (cloV R) N k j = T)
        case atStart => exact ⟨k + 1, d, c', L, b1 + 1, Nat.lt_succ_self _, hlt, rfl, rfl, rfl, HC3.out, HX2.out, Nat.le_succ_of_le HX1.out.2, HX1.out.1, HB3.out, HLJ.out⟩
        case round =>
          have hQb1 := HX1.out.2
          clear HC3 HX1 HX2 HB3 HLJ w1
          obtain ⟨j, d, c', L, b2, hkj, hj, rfl, rfl, rfl, hC, hG2, hQb2, hG1, hB, hL⟩ := hrel
          have HCp := hiddenN hC
          have HG1 := hiddenN hG1
          have HG2 := hiddenN hG2
          have HB := hiddenN hB
          have HLL := hiddenN hL
          have x1 := hG1.cell (k := 0) rfl
          have x2 := hG2.cell (k := 0) rfl
          simp only [List.getElem_toArray, List.getElem_cons_zero] at x1 x2
          have f2 := hG2.frozen 0
          have z1 := (G2.out.below (by rw [HQ.out]; exact hB)).cell (k := 1) rfl
          simp only [List.getElem_toArray, List.getElem_cons_zero, List.getElem_cons_succ] at z1
          clear hC hG1 hG2 hB hL
          by_cases hlj : j < N
          · have hji : (j : Int) < (N : Int) := by omega
            have CF := hiddenN (containsFunc_anyX k j N b1 b2 v R _ (LS.out.below (by rw [HQ.out]; exact HB.out)) HRL.out hlt hlj HR6.out x1 x2)
            have HLC : Hid (L ++ (if cloV R k j = true then ((k : Int), (j : Int)) :: lefJ (cloV R) N k (j + 1) else lefJ (cloV R) N k (j + 1)) = T) := by
              show _ = _
              rw [← lefJ_cut hlj]
              exact HLL.out
            generalize cloV R k j = r at *
            clear HLL
            cases r with
            | true =>
              have HLT : Hid (L ++ ((k : Int), (j : Int)) :: lefJ (cloV R) N k (j + 1) = T) := by have q := HLC.out; rw [if_pos rfl] at q; exact q
              clear HLC
              go_upto_region 13 with (go_at_call 22; (with_reducible refine CF.out.mono ?_); rintro e w' ⟨rfl, rfl⟩)
              have hqw : Q ≤ w'.heap.size := by have := HB.out.size; have := HQ.out; omega
              have hGy := hiddenN (blkA_new 34 w' #[.int .i64 (k : Int), .int .i64 (j : Int)])
              have v0 := hGy.out.cell (k := 0) rfl
              have v1 := hGy.out.cell (k := 1) rfl
              simp only [List.getElem_toArray, List.getElem_cons_zero, List.getElem_cons_succ] at v0 v1
              have y4 : Hid (Below w'.heap.size w' (w'.alloc (.cells #[.int .i64 (k : Int), .int .i64 (j : Int)] 34))) := (Below.refl _ _).alloc (Nat.le_refl _) _
              have C4 := hiddenN (HCp.out.later y4.out)
              have G14 := hiddenN (HG1.out.below y4.out)
              have G24 := hiddenN (HG2.out.below y4.out)
              have B4 := hiddenN (HB.out.trans (y4.out.mono hqw))
              have hB4 : Q ≤ (w'.alloc (.cells #[.int .i64 (k : Int), .int .i64 (j : Int)] 34)).heap.size := by rw [World.size_alloc]; omega
              have hd0 := fun y hy => (C4.out.lt y hy).1
              obtain ⟨nF, hNF⟩ : ∃ nF, L.length = nF := ⟨_, rfl⟩
              have HNF := hiddenN hNF
              have hm9 : nF ≤ 10000000 := by have := HFW.out L _ HLT.out; omega
              rw [hNF]
              clear hNF y4
              go_upto_region 14 with (at_builtin; refine wpList_appPp1 rfl _ _ rfl Q d c' L nF HNF.out rfl C4.out w'.heap.size ((k : Int), (j : Int)) rfl v0 v1 hm9 hB4 ?_; intro d2 c2 W5 hg2; have C5 := hiddenN hg2.own; have B5 := hiddenN (B4.out.trans (hg2.below hB4 hd0)); have G15 := hiddenN (G14.out.keep (hg2.keep _ G14.out.lt (capPp_ne C4.out (by decide) G14.out))); have G25 := hiddenN (G24.out.keep (hg2.keep _ G24.out.lt (capPp_ne C4.out (by decide) G24.out))); clear hg2)
              clear v0 v1 x1 x2 f2
              have HLN : Hid (nF + 1 = (L ++ [((k : Int), (j : Int))]).length) := by show _ = _; rw [List.length_append, HNF.out]; rfl
              have HLT2 : Hid ((L ++ [((k : Int), (j : Int))]) ++ lefJ (cloV R) N k (j + 1) = T) := by show _ = _; rw [List.append_assoc]; exact HLT.out
              have t2 := G25.out.cell (k := 0) rfl
              simp only [List.getElem_toArray, List.getElem_cons_zero] at t2
              have hqW5 : Q ≤ W5.heap.size := by have := B5.out.size; have := HQ.out; omega
              have X3 := hiddenN (blkA_new 3 W5 #[.int .i64 (j : Int)])
              have y3 : Hid (Below W5.heap.size W5 (W5.alloc (.cells #[.int .i64 (j : Int)] 3))) := (Below.refl _ _).alloc (Nat.le_refl _) _
              have C6 := hiddenN (C5.out.later y3.out)
              have G6 := hiddenN (G15.out.below y3.out)
              have B6 := hiddenN (B5.out.trans (y3.out.mono hqW5))
              have wj : IntKind.i64.wrap ((j : Int) + 1) = (j : Int) + 1 := by rw [IntKind.wrap_i64]; omega
              go_upto_region 10 with fail
              generalize W5.alloc (.cells #[.int .i64 (j : Int)] 3) = W6 at *
              obtain ⟨b3, hb3⟩ : ∃ q, W5.heap.size = q := ⟨_, rfl⟩
              have HQ3 : Hid (Q ≤ b3) := by show _ ≤ _; rw [← hb3]; exact hqW5
              rw [hb3] at X3 ⊢
              have t3 := X3.out.cell (k := 0) rfl
              simp only [List.getElem_toArray, List.getElem_cons_zero] at t3
              have f3 := X3.out.frozen 0
              have C7 : Hid (CapPp Q (W6.setCell ⟨b3, 0, none⟩ (.int .i64 ((j : Int) + 1))) d2 c2 (L ++ [((k : Int), (j : Int))])) := C6.out.keep fun y hy => Below.heap_setCell _ _ _ _ (capPp_ne C6.out (by decide) X3.out y hy)
              have G7 : Hid (BlkA 3 b1 (W6.setCell ⟨b3, 0, none⟩ (.int .i64 ((j : Int) + 1))) #[.int .i64 (k : Int)]) := G6.out.keep (Below.heap_setCell _ _ _ _ (by have := G15.out.lt; show b1 ≠ b3; omega))
              have X7 := hiddenN (X3.out.set 0 (.int .i64 ((j : Int) + 1)))
              have B7 := hiddenN (B6.out.setCell (p := ⟨b3, 0, none⟩) HQ3.out (.int .i64 ((j : Int) + 1)))
              clear t2 hb3
              go_wp2
              go_roundg (N - (j + 1))
              case measure => omega
              case rel => exact ⟨j + 1, d2, c2, L ++ [((k : Int), (j : Int))], b3, Nat.lt_succ_of_lt hkj, hlj, rfl, rfl, by rw [← HLN.out], C7.out, X7.out, HQ3.out, G7.out, B7.out, HLT2.out⟩
            | false =>
              have HLT : Hid (L ++ lefJ (cloV R) N k (j + 1) = T) := by have q := HLC.out; rw [if_neg (by decide)] at q; exact q
              clear HLC
              go_upto_region 14 with (go_at_call 22; (with_reducible refine CF.out.mono ?_); rintro e w' ⟨rfl, rfl⟩)
              clear x1 x2 f2
              have t2 := HG2.out.cell (k := 0) rfl
              simp only [List.getElem_toArray, List.getElem_cons_zero] at t2
              have hqz : Q ≤ w'.heap.size := by have := HB.out.size; have := HQ.out; omega
              have X3 := hiddenN (blkA_new 3 w' #[.int .i64 (j : Int)])
              have y3 : Hid (Below w'.heap.size w' (w'.alloc (.cells #[.int .i64 (j : Int)] 3))) := (Below.refl _ _).alloc (Nat.le_refl _) _
              have C6 := hiddenN (HCp.out.later y3.out)
              have G6 := hiddenN (HG1.out.below y3.out)
              have B6 := hiddenN (HB.out.trans (y3.out.mono hqz))
              have wj : IntKind.i64.wrap ((j : Int) + 1) = (j : Int) + 1 := by rw [IntKind.wrap_i64]; omega
              go_upto_region 10 with fail
              generalize w'.alloc (.cells #[.int .i64 (j : Int)] 3) = W6 at *
              obtain ⟨b3, hb3⟩ : ∃ q, w'.heap.size = q := ⟨_, rfl⟩
              have HQ3 : Hid (Q ≤ b3) := by show _ ≤ _; rw [← hb3]; exact hqz
              rw [hb3] at X3 ⊢
              have t3 := X3.out.cell (k := 0) rfl
              simp only [List.getElem_toArray, List.getElem_cons_zero] at t3
              have f3 := X3.out.frozen 0
              have C7 : Hid (CapPp Q (W6.setCell ⟨b3, 0, none⟩ (.int .i64 ((j : Int) + 1))) d c' (L)) := C6.out.keep fun y hy => Below.heap_setCell _ _ _ _ (capPp_ne C6.out (by decide) X3.out y hy)
              have G7 : Hid (BlkA 3 b1 (W6.setCell ⟨b3, 0, none⟩ (.int .i64 ((j : Int) + 1))) #[.int .i64 (k : Int)]) := G6.out.keep (Below.heap_setCell _ _ _ _ (by have := HG1.out.lt; show b1 ≠ b3; omega))
              have X7 := hiddenN (X3.out.set 0 (.int .i64 ((j : Int) + 1)))
              have B7 := hiddenN (B6.out.setCell (p := ⟨b3, 0, none⟩) HQ3.out (.int .i64 ((j : Int) + 1)))
              clear t2 hb3
              go_wp2
              go_roundg (N - (j + 1))
              case measure => omega
              case rel => exact ⟨j + 1, d, c', L, b3, Nat.lt_succ_of_lt hkj, hlj, rfl, rfl, rfl, C7.out, X7.out, HQ3.out, G7.out, B7.out, HLT.out⟩
          · have hji : ¬ (j : Int) < (N : Int) := by omega
            have HLT : Hid (L ++ lefK (cloV R) N (k + 1) = T) := by show _ = _; rw [← lefJ_end (j := j) (by omega)]; exact HLL.out
            go_wp2
            go_roundg (N - (k + 1))
            case measure => omega
            case rel => exact ⟨k + 1, d, c', L, hlt, rfl, by go_num, rfl, HCp.out, HB.out, HLT.out⟩
      · have hki : ¬ (k : Int) < (N : Int) := by omega
        have HLT : Hid (L = T) := by
          have q := HLL.out
          rw [lefK_end (by omega), List.append_nil] at q
          exact q
        have EN := hiddenN (HEND.out wr d c' (by rw [← HLT.out]; exact HCp.out.mono HWQ.out) (B0.out.trans ((B2.out.trans (HB.out.mono (by rw [← HQ.out]; exact B2.out.size))).mono B0.out.size)))
        rw [← HLT.out] at EN
        go_wp2
        exact EN.out
  · have AN : Hid (Calls Tryz.prog 20 #[.agg #[.int .i64 n.nodes, .slice a n.arcs.length c], .slice al zs.length cl] (W.alloc (.cells #[.int .i64 n.nodes, .slice a n.arcs.length c] 24)) fun e w' => e = .returned (.tuple #[.slice none 0 0, .int .i64 (codeV n zs)]) ∧ Below (W.alloc (.cells #[.int .i64 n.nodes, .slice a n.arcs.length c] 24)).heap.size (W.alloc (.cells #[.int .i64 n.nodes, .slice a n.arcs.length c] 24)) w') := AL.out.mono fun e w' hh => by
      rcases hh with ⟨k1, -⟩ | ⟨-, e1, q⟩
      · exact absurd k1 hc
      · exact ⟨e1, q⟩
    have HT : Hid (cloL n zs = []) := if_neg hc
    have qc : (codeV n zs != 0) = true := by simpa using hc
    have HEND : Hid (∀ wz : World, Below W.heap.size W wz → PE (.returned (.tuple #[.slice none 0 0, .int .i64 (codeV n zs)])) wz) := fun wz q2 => by
      rw [← HPE.out]
      unfold CloE
      rw [HT.out]
      exact ⟨none, 0, rfl, CapPp.nil _ _, q2⟩
    clear AL hc HPE
    generalize codeV n zs = cd at *
    go_enter Tryz.func8, Tryz.ntmps8
    go_upto_region 1 with fail
    generalize W.alloc (.cells #[.int .i64 n.nodes, .slice a n.arcs.length c] 24) = W1 at *
    go_wp2_with (go_at_call 20; (with_reducible refine AN.out.mono ?_); rintro e W2 ⟨rfl, q2⟩; have B2 := hiddenN q2; clear q2)
    exact HEND.out _ (B0.out.trans (B2.out.mono B0.out.size))
theorem Tryz.sizDm : (Tryz.prog.info? 64).map (·.size) = some 2 := by kernel_rfl
/-- Its code: the firings' own, or that they don't come home. -/
def dmC (n : NN) (zs : List Int) : Int := if codeV n zs = 0 then (if homeB n zs = true then 0 else 181) else codeV n zs
def DmE (n : NN) (zs : List Int) (w : World) (e : Ending) (w' : World) : Prop :=
  (dmC n zs = 0 ∧ ∃ am cm ap cp, e = .returned (.tuple #[.agg #[.slice am n.arcs.length cm, .slice ap (cloL n zs).length cp], .int .i64 0]) ∧ CapR w.heap.size w' am cm (mostM n zs) ∧ CapPp w.heap.size w' ap cp (cloL n zs) ∧ Below w.heap.size w w') ∨
  (dmC n zs ≠ 0 ∧ e = .returned (.tuple #[.agg #[.slice none 0 0, .slice none 0 0], .int .i64 (dmC n zs)]) ∧ Below w.heap.size w w')
set_option maxRecDepth 100000 in
set_option maxHeartbeats 8000000 in
theorem demandOf_anyX (n : NN) (a : Option Addr) (c : Nat) (W : World) (h : AtN W a n.arcs) (hroom : n.arcs.length ≤ 4611686018427387904) (hna : a = none → n.arcs.length = 0 ∧ c = 0) (al : Option Addr) (cl : Nat) (zs : List Int) (hz : At W al zs) (hzl : zs.length ≤ 4611686018427387904) :
    Calls Tryz.prog 29 #[.agg #[.int .i64 n.nodes, .slice a n.arcs.length c], .slice al zs.length cl] W (DmE n zs W) := by
  obtain ⟨PE, hPE⟩ : ∃ Q, DmE n zs W = Q := ⟨_, rfl⟩
  rw [hPE]
  have HPE := hiddenN hPE
  have y1 : Hid (Below W.heap.size W (W.alloc (.cells #[.int .i64 n.nodes, .slice a n.arcs.length c] 24))) := (Below.refl _ _).alloc (Nat.le_refl _) _
  have hs1 : (W.alloc (.cells #[.int .i64 n.nodes, .slice a n.arcs.length c] 24)).heap.size = W.heap.size + 1 := World.size_alloc ..
  have y2 : Hid (Below (W.alloc (.cells #[.int .i64 n.nodes, .slice a n.arcs.length c] 24)).heap.size (W.alloc (.cells #[.int .i64 n.nodes, .slice a n.arcs.length c] 24)) ((W.alloc (.cells #[.int .i64 n.nodes, .slice a n.arcs.length c] 24)).alloc (.cells #[.slice none 0 0, .slice none 0 0] 64))) := (Below.refl _ _).alloc (Nat.le_refl _) _
  have G0 := hiddenN ((blkA_new 24 W #[.int .i64 n.nodes, .slice a n.arcs.length c]).below y2.out)
  have D0 := hiddenN (blkA_new 64 (W.alloc (.cells #[.int .i64 n.nodes, .slice a n.arcs.length c] 24)) #[.slice none 0 0, .slice none 0 0])
  have B0 := hiddenN (y1.out.trans (y2.out.mono (by rw [hs1]; omega)))
  have H0 := hiddenN ((h.below y1.out).below y2.out)
  have Z0 := hiddenN ((hz.below y1.out).below y2.out)
  rw [hs1] at D0
  clear hPE h hz y1 y2 hs1
  have HNA := hiddenN hna
  clear hna
  obtain ⟨hb, hhb⟩ : ∃ hb, homeB n zs = hb := ⟨_, rfl⟩
  obtain ⟨cd, hcd⟩ : ∃ cd, codeV n zs = cd := ⟨_, rfl⟩
  have HM : Hid (∀ U, Below ((W.alloc (.cells #[.int .i64 n.nodes, .slice a n.arcs.length c] 24)).alloc (.cells #[.slice none 0 0, .slice none 0 0] 64)).heap.size ((W.alloc (.cells #[.int .i64 n.nodes, .slice a n.arcs.length c] 24)).alloc (.cells #[.slice none 0 0, .slice none 0 0] 64)) U → Calls Tryz.prog 51 #[.agg #[.int .i64 n.nodes, .slice a n.arcs.length c], .slice al zs.length cl] U fun e w' => e = .returned (.tuple #[.bool hb, .int .i64 cd]) ∧ Below U.heap.size U w') := fun U hU => by
    have q := home_anyV n a c U (H0.out.below hU) hroom HNA.out al cl zs (Z0.out.below hU) hzl
    rw [hhb, hcd] at q
    exact q
  by_cases h0 : cd = 0
  · have q0 : (cd != 0) = false := by rw [h0]; rfl
    cases hb with
    | true =>
      have HD : Hid (dmC n zs = 0) := by show _ = _; unfold dmC; rw [if_pos (hcd.trans h0), if_pos hhb]
      have HMO : Hid (∀ U, Below ((W.alloc (.cells #[.int .i64 n.nodes, .slice a n.arcs.length c] 24)).alloc (.cells #[.slice none 0 0, .slice none 0 0] 64)).heap.size ((W.alloc (.cells #[.int .i64 n.nodes, .slice a n.arcs.length c] 24)).alloc (.cells #[.slice none 0 0, .slice none 0 0] 64)) U → Calls Tryz.prog 52 #[.agg #[.int .i64 n.nodes, .slice a n.arcs.length c], .slice al zs.length cl] U fun e w' => ∃ ar cr, e = .returned (.tuple #[.slice ar n.arcs.length cr, .int .i64 0]) ∧ CapR U.heap.size w' ar cr (mostM n zs) ∧ Below U.heap.size U w') := fun U hU => (most_anyV n a c U (H0.out.below hU) HNA.out al cl zs (Z0.out.below hU) hzl hroom).mono fun e w' hh => by
        rcases hh with ⟨-, B, ar, cr, e1, q0, -, q1, q2⟩ | ⟨k1, -⟩
        · exact ⟨ar, cr, e1, q1.mono q0, q2⟩
        · exact absurd (hcd.trans h0) k1
      have HCL : Hid (∀ U, Below ((W.alloc (.cells #[.int .i64 n.nodes, .slice a n.arcs.length c] 24)).alloc (.cells #[.slice none 0 0, .slice none 0 0] 64)).heap.size ((W.alloc (.cells #[.int .i64 n.nodes, .slice a n.arcs.length c] 24)).alloc (.cells #[.slice none 0 0, .slice none 0 0] 64)) U → Calls Tryz.prog 8 #[.agg #[.int .i64 n.nodes, .slice a n.arcs.length c], .slice al zs.length cl] U fun e w' => ∃ d c', e = .returned (.tuple #[.slice d (cloL n zs).length c', .int .i64 0]) ∧ CapPp U.heap.size w' d c' (cloL n zs) ∧ Below U.heap.size U w') := fun U hU => by
        have q := clashes_anyX n a c U (H0.out.below hU) hroom HNA.out al cl zs (Z0.out.below hU) hzl
        unfold CloE at q
        rw [hcd, h0] at q
        exact q
      have HEND : Hid (∀ (wz : World) am cm ap cp, CapR W.heap.size wz am cm (mostM n zs) → CapPp W.heap.size wz ap cp (cloL n zs) → Below W.heap.size W wz → PE (.returned (.tuple #[.agg #[.slice am n.arcs.length cm, .slice ap (cloL n zs).length cp], .int .i64 0])) wz) := fun wz am cm ap cp q1 q2 q3 => by
        rw [← HPE.out]
        exact .inl ⟨HD.out, am, cm, ap, cp, rfl, q1, q2, q3⟩
      subst h0
      clear q0 HPE hcd hhb H0 Z0 HNA
      generalize cloL n zs = PL at *
      generalize mostM n zs = MM at *
      obtain ⟨nP, hnP⟩ : ∃ nP, PL.length = nP := ⟨_, rfl⟩
      have z0 := G0.out.cell (k := 0) rfl
      have z1 := G0.out.cell (k := 1) rfl
      simp only [List.getElem_toArray, List.getElem_cons_zero, List.getElem_cons_succ] at z0 z1
      rw [hnP] at HCL HEND
      clear hnP
      go_enter Tryz.func29, Tryz.ntmps29
      go_upto_region 1 with fail
      generalize (W.alloc (.cells #[.int .i64 n.nodes, .slice a n.arcs.length c] 24)).alloc (.cells #[.slice none 0 0, .slice none 0 0] 64) = W1 at *
      have hWs : W.heap.size < W1.heap.size := G0.out.lt
      go_upto_region 6 with (go_at_call 51; (with_reducible refine (HM.out W1 (Below.refl _ _)).mono ?_); rintro e W2 ⟨rfl, q⟩; have B2 := hiddenN q; clear q)
      have z0 := (G0.out.below B2.out).cell (k := 0) rfl
      have z1 := (G0.out.below B2.out).cell (k := 1) rfl
      simp only [List.getElem_toArray, List.getElem_cons_zero, List.getElem_cons_succ] at z0 z1
      go_upto_region 9 with (go_at_call 52; (with_reducible refine (HMO.out W2 B2.out).mono ?_); rintro e W3 ⟨am, cm, rfl, q1, q⟩; have R3 := hiddenN q1; have B3' := hiddenN q; have B3 := hiddenN (B2.out.trans (q.mono B2.out.size)); clear q q1)
      have z0 := (G0.out.below B3.out).cell (k := 0) rfl
      have z1 := (G0.out.below B3.out).cell (k := 1) rfl
      simp only [List.getElem_toArray, List.getElem_cons_zero, List.getElem_cons_succ] at z0 z1
      go_upto_region 10 with (go_at_call 8; (with_reducible refine (HCL.out W3 B3.out).mono ?_); rintro e W4 ⟨ap, cp, rfl, q1, q⟩; have P4 := hiddenN q1; have B4 := hiddenN (B3.out.trans (q.mono B3.out.size)); have R4 := hiddenN (R3.out.later q); clear q q1)
      have D4 := hiddenN (D0.out.below B4.out)
      have hW3 : W1.heap.size ≤ W3.heap.size := B3.out.size
      have hW2 : W1.heap.size ≤ W2.heap.size := B2.out.size
      have hlt : W.heap.size + 1 < W1.heap.size := D0.out.lt
      clear z0 z1 HM HMO HCL
      go_wp2_with (refine wpList_storeW _ rfl 64 (.tmp 4) (.tmp 41) rfl rfl (W.heap.size + 1) 64 _ _ rfl rfl D4.out Tryz.sizDm rfl rfl ?_; intro w8 hN hU; have x0 := hN.cell (k := 0) rfl; have x1 := hN.cell (k := 1) rfl; simp only [List.getElem_toArray, List.getElem_cons_zero, List.getElem_cons_succ] at x0 x1; have U8 := hiddenN hU; clear hN hU)
      refine bodyPost_ret (v := .tuple #[.agg #[.slice am n.arcs.length cm, .slice ap nP cp], .int .i64 0]) (by simp [results, Tryz.results29, go_sem, x0, x1]) rfl ?_
      refine HEND.out w8 am cm ap cp ((R4.out.keep fun x hx => U8.out.block _ (R4.out.lt x hx).2 (by have := (R4.out.lt x hx).1; omega)).mono (by omega)) ((P4.out.keep fun x hx => U8.out.block _ (P4.out.lt x hx).2 (by have := (P4.out.lt x hx).1; omega)).mono (by omega)) ?_
      exact B0.out.trans ((B4.out.mono (by omega)).trans (U8.out.below (by omega) (by have := B4.out.size; omega)))
    | false =>
      have HD : Hid (dmC n zs = 181) := by show _ = _; unfold dmC; rw [if_pos (hcd.trans h0), if_neg (by rw [hhb]; decide)]
      have HEND : Hid (∀ (wz : World), Below W.heap.size W wz → PE (.returned (.tuple #[.agg #[.slice none 0 0, .slice none 0 0], .int .i64 181])) wz) := fun wz q3 => by
        rw [← HPE.out]
        exact .inr ⟨by rw [HD.out]; decide, by rw [HD.out], q3⟩
      subst h0
      clear q0 HPE hcd hhb H0 Z0 HNA
      have z0 := G0.out.cell (k := 0) rfl
      have z1 := G0.out.cell (k := 1) rfl
      simp only [List.getElem_toArray, List.getElem_cons_zero, List.getElem_cons_succ] at z0 z1
      go_enter Tryz.func29, Tryz.ntmps29
      go_upto_region 1 with fail
      generalize (W.alloc (.cells #[.int .i64 n.nodes, .slice a n.arcs.length c] 24)).alloc (.cells #[.slice none 0 0, .slice none 0 0] 64) = W1 at *
      have hlt : W.heap.size + 1 < W1.heap.size := D0.out.lt
      go_wp2_with (first
        | (go_at_call 51; (with_reducible refine (HM.out W1 (Below.refl _ _)).mono ?_); rintro e W2 ⟨rfl, q⟩; have B2 := hiddenN q; have D2 := hiddenN (D0.out.below q); clear q)
        | (refine wpList_storeW _ rfl 64 (.tmp 4) (.tmp 22) rfl rfl (W.heap.size + 1) 64 _ _ rfl rfl D2.out Tryz.sizDm rfl rfl ?_; intro w8 hN hU; have x0 := hN.cell (k := 0) rfl; have x1 := hN.cell (k := 1) rfl; simp only [List.getElem_toArray, List.getElem_cons_zero, List.getElem_cons_succ] at x0 x1; have U8 := hiddenN hU; clear hN hU))
      refine bodyPost_ret (v := .tuple #[.agg #[.slice none 0 0, .slice none 0 0], .int .i64 181]) (by simp [results, Tryz.results29, go_sem, x0, x1]) rfl ?_
      exact HEND.out w8 (B0.out.trans ((B2.out.mono (by omega)).trans (U8.out.below (by omega) (by have := B2.out.size; omega))))
  · have q0 : (cd != 0) = true := by simpa using h0
    have HD : Hid (dmC n zs = cd) := by show _ = _; unfold dmC; rw [if_neg (by rw [hcd]; exact h0), hcd]
    have HEND : Hid (∀ (wz : World), Below W.heap.size W wz → PE (.returned (.tuple #[.agg #[.slice none 0 0, .slice none 0 0], .int .i64 cd])) wz) := fun wz q3 => by
      rw [← HPE.out]
      exact .inr ⟨by rw [HD.out]; exact h0, by rw [HD.out], q3⟩
    clear h0 HPE hcd hhb H0 Z0 HNA
    have z0 := G0.out.cell (k := 0) rfl
    have z1 := G0.out.cell (k := 1) rfl
    simp only [List.getElem_toArray, List.getElem_cons_zero, List.getElem_cons_succ] at z0 z1
    go_enter Tryz.func29, Tryz.ntmps29
    go_upto_region 1 with fail
    generalize (W.alloc (.cells #[.int .i64 n.nodes, .slice a n.arcs.length c] 24)).alloc (.cells #[.slice none 0 0, .slice none 0 0] 64) = W1 at *
    have hlt : W.heap.size + 1 < W1.heap.size := D0.out.lt
    go_wp2_with (first
      | (go_at_call 51; (with_reducible refine (HM.out W1 (Below.refl _ _)).mono ?_); rintro e W2 ⟨rfl, q⟩; have B2 := hiddenN q; have D2 := hiddenN (D0.out.below q); clear q)
      | (refine wpList_storeW _ rfl 64 (.tmp 4) (.tmp 18) rfl rfl (W.heap.size + 1) 64 _ _ rfl rfl D2.out Tryz.sizDm rfl rfl ?_; intro w8 hN hU; have x0 := hN.cell (k := 0) rfl; have x1 := hN.cell (k := 1) rfl; simp only [List.getElem_toArray, List.getElem_cons_zero, List.getElem_cons_succ] at x0 x1; have U8 := hiddenN hU; clear hN hU))
    refine bodyPost_ret (v := .tuple #[.agg #[.slice none 0 0, .slice none 0 0], .int .i64 cd]) (by simp [results, Tryz.results29, go_sem, x0, x1]) rfl ?_
    exact HEND.out w8 (B0.out.trans ((B2.out.mono (by omega)).trans (U8.out.below (by omega) (by have := B2.out.size; omega))))
theorem made_zeroX {w0 : World} {B g n : Nat} (h : w0.ownsRow B 3 1 (.slice (some ⟨g, 0, none⟩) n n) n (madeCells (Value.cells (.int .i64 0)) (n * 1)).toList) : CapR B w0 (some ⟨g, 0, none⟩) n (List.replicate n 0) := by
  unfold CapR
  have e : (madeCells (Value.cells (.int .i64 0)) (n * 1)).toList = (List.replicate n 0).map (Value.int .i64) := by
    show (madeCells #[.int .i64 0] (n * 1)).toList = _
    apply List.ext_getElem?
    intro k
    rw [Nat.mul_one]
    by_cases hk : k < n <;> simp [madeCells, hk, Nat.mod_one]
  rw [e] at h
  simpa using h
/-- The first k numbers are in, the others are 0. -/
def filX (m k : Nat) : List Int := (List.range k).map Int.ofNat ++ List.replicate (m - k) 0
theorem filX_cut {m k : Nat} (h : k < m) : filX m k = (List.range k).map Int.ofNat ++ 0 :: List.replicate (m - (k + 1)) 0 := by
  unfold filX
  rw [← List.replicate_succ, show m - (k + 1) + 1 = m - k by omega]
theorem filX_next {m k : Nat} : filX m (k + 1) = (List.range k).map Int.ofNat ++ (k : Int) :: List.replicate (m - (k + 1)) 0 := by
  unfold filX
  rw [List.range_succ, List.map_append, List.append_assoc]
  rfl
theorem filX_all (m : Nat) : filX m m = (List.range m).map Int.ofNat := by
  unfold filX
  rw [Nat.sub_self, List.replicate_zero, List.append_nil]
set_option maxRecDepth 100000 in
set_option maxHeartbeats 2000000 in
theorem turns_anyX (v2 : Value) (am : Option Addr) (m cm : Nat) (pk : List Int) (W : World) (hp : At W am pk) (hm : pk.length = m) (hn : m ≤ 1000000) (hlo : ∀ y, am = some y → y.block < W.heap.size) :
    Calls Tryz.prog 30 #[.agg #[.slice am m cm, v2]] W fun e w' => ∃ (g : Nat) (l : List Nat), e = .returned (.slice (some ⟨g, 0, none⟩) m m) ∧ l.length = m ∧ l.Pairwise (BefP (nth pk)) ∧ (∀ i, i ∈ l ↔ i < m) ∧ CapR W.heap.size w' (some ⟨g, 0, none⟩) m (l.map Int.ofNat) ∧ Below W.heap.size W w' := by
  obtain ⟨PE, hPE⟩ : ∃ Q : Ending → World → Prop, (fun e w' => ∃ (g : Nat) (l : List Nat), e = .returned (.slice (some ⟨g, 0, none⟩) m m) ∧ l.length = m ∧ l.Pairwise (BefP (nth pk)) ∧ (∀ i, i ∈ l ↔ i < m) ∧ CapR W.heap.size w' (some ⟨g, 0, none⟩) m (l.map Int.ofNat) ∧ Below W.heap.size W w') = Q := ⟨_, rfl⟩
  rw [hPE]
  have HPE := hiddenN hPE
  have b0 := (Below.refl W.heap.size W).alloc (Nat.le_refl _) (.cells #[.slice am m cm, v2] 64)
  have B0 := hiddenN b0
  have G0 := hiddenN (blkA_new 64 W #[.slice am m cm, v2])
  have HP := hiddenN (hp.below b0)
  have HM := hiddenN hm
  have hs : (W.alloc (.cells #[.slice am m cm, v2] 64)).heap.size = W.heap.size + 1 := World.size_alloc ..
  have HLO : Hid (∀ y, am = some y → y.block < W.heap.size + 1) := fun y hy => Nat.lt_succ_of_lt (hlo y hy)
  obtain ⟨i0, hi, hz0, hz1, hz2⟩ := info_parts Tryz.info3
  have z0 := G0.out.cell (k := 0) rfl
  simp only [List.getElem_toArray, List.getElem_cons_zero] at z0
  clear hPE b0 hp hm hlo
  go_enter Tryz.func30, Tryz.ntmps30
  go_upto_region 1 with fail
  generalize W.alloc (.cells #[.slice am m cm, v2] 64) = W1 at *
  obtain ⟨bx, hbx⟩ : ∃ q, W.heap.size = q := ⟨_, rfl⟩
  obtain ⟨Q, hQ⟩ : ∃ q, W1.heap.size = q := ⟨_, rfl⟩
  have hQb : bx < Q := by omega
  have HQ := hiddenN hQ
  have HBX := hiddenN hbx
  rw [hbx] at G0 z0 HLO ⊢
  have hQe : bx + 1 = Q := by omega
  rw [hQe] at HLO
  clear hbx hs hQe
  go_upto_region 2 with (at_make; refine wpList_make_full _ rfl _ _ 25 rfl Q 3 i0 (.int .i64 0) 1 Tryz.underlying25 hi hz0 hz1 _ _ _ _ m rfl rfl rfl rfl (by rw [hz2]; omega) (by unfold maxLen; omega) (Nat.le_of_eq hQ.symm) ?_; intro W2 hown0 hgrow0; have C0 := hiddenN (made_zeroX hown0); have B2 := hiddenN ((Below.refl Q W1).grown hgrow0 (Nat.le_of_eq hQ.symm) (fun k h => by cases h)); clear hown0 hgrow0)
  have C0' : Hid (CapR Q W2 (some ⟨Q, 0, none⟩) m (filX m 0)) := by have q := C0.out; rw [hQ] at q; exact q
  clear C0 hi hz0 hz1 hz2 z0 hQ
  go_wp2
  go_loopg [11] m (fun gk u wr => ∃ k : Nat, k ≤ m ∧ gk = m - k ∧ u = .int .i64 (k : Int) ∧ CapR Q wr (some ⟨Q, 0, none⟩) m (filX m k) ∧ Below Q W1 wr)
  case atStart => exact ⟨0, Nat.zero_le _, rfl, rfl, C0'.out, B2.out⟩
  case round =>
    clear C0' B2
    obtain ⟨k, hk, rfl, rfl, hC, hB⟩ := hrel
    have HB := hiddenN hB
    clear hB
    by_cases hlt : k < m
    · have hki : (k : Int) < (m : Int) := by omega
      rw [filX_cut hlt] at hC
      have hlk : Hid (((List.range k).map Int.ofNat).length = k) := by show _ = _; rw [List.length_map, List.length_range]
      have y0 := hC.hd (k := k) hlk.out
      have hf := hC.fz k
      have HC := hiddenN (hC.set (k := k) (k : Int) hlk.out)
      have HB2 := hiddenN (HB.out.setCell (p := ⟨Q, k, none⟩) (Nat.le_refl _) (.int .i64 (k : Int)))
      clear hC
      go_wp2
      go_roundg (m - (k + 1))
      case measure => omega
      case rel => exact ⟨k + 1, by omega, rfl, by go_num, by rw [filX_next]; exact HC.out, HB2.out⟩
    · have hki : ¬ (k : Int) < (m : Int) := by omega
      have ek : m = k := by omega
      have hC' : CapR Q wr (some ⟨Q, 0, none⟩) m ((List.range m).map Int.ofNat) := by
        rw [← filX_all]
        have e : filX m k = filX m m := by rw [ek]
        rw [e] at hC
        exact hC
      have HB1 : Hid (Below W1.heap.size W1 wr) := by show Below _ _ _; rw [HQ.out]; exact HB.out
      have SI := hiddenN (sort_inX bx v2 am m cm pk Q wr hC' (by have := HB.out.size; have := HQ.out; omega) (G0.out.below HB1.out) (HP.out.below HB1.out) HM.out hn hQb HLO.out)
      clear hC hC' ek
      go_wp2_with (go_at_call 53; (with_reducible refine SI.out.mono ?_); rintro e w' ⟨rfl, l, h1, h2, h3, h4, h5⟩; have R1 := hiddenN h1; have R2 := hiddenN h2; have R3 := hiddenN h3; have R4 := hiddenN h4; have R5 := hiddenN h5; clear h1 h2 h3 h4 h5)
      rw [← HPE.out]
      refine ⟨Q, l, rfl, R1.out, R2.out, R3.out, ?_, ?_⟩
      · exact R4.out.mono (by rw [HBX.out]; omega)
      · exact B0.out.trans ((HB.out.trans R5.out).mono (by rw [HBX.out]; omega))
def szE (pk : List Int) (L : List (Int × Int)) : Int := if ¬ L.length = pk.length then 1 else regE pk L
set_option maxRecDepth 100000 in
set_option maxHeartbeats 4000000 in
theorem sizes_anyX (v2 : Value) (am : Option Addr) (m cm : Nat) (pk : List Int) (ar : Option Addr) (n cr : Nat) (L : List (Int × Int)) (W : World) (hp : At W am pk) (hm : pk.length = m) (hmn : m ≤ 1000000) (hL : AtGn W ar L) (hLl : L.length = n) :
    Calls Tryz.prog 39 #[.agg #[.slice am m cm, v2], .slice ar n cr] W fun e w' => e = .returned (.int .i64 (szE pk L)) ∧ Below W.heap.size W w' := by
  obtain ⟨PE, hPE⟩ : ∃ Q : Ending → World → Prop, (fun e w' => e = .returned (.int .i64 (szE pk L)) ∧ Below W.heap.size W w') = Q := ⟨_, rfl⟩
  rw [hPE]
  have HPE := hiddenN hPE
  have b0 := (Below.refl W.heap.size W).alloc (Nat.le_refl _) (.cells #[.slice am m cm, v2] 64)
  have B0 := hiddenN b0
  have G0 := hiddenN (blkA_new 64 W #[.slice am m cm, v2])
  have HP := hiddenN (hp.below b0)
  have HL := hiddenN (hL.below b0)
  have HM := hiddenN hm
  have HLl := hiddenN hLl
  have z0 := G0.out.cell (k := 0) rfl
  simp only [List.getElem_toArray, List.getElem_cons_zero] at z0
  clear hPE b0 hp hm hL hLl
  go_enter Tryz.func39, Tryz.ntmps39
  go_upto_region 1 with fail
  generalize W.alloc (.cells #[.slice am m cm, v2] 64) = W1 at *
  by_cases hnm : n = m
  · have HE : Hid (szE pk L = regE pk L) := by show _ = _; unfold szE; rw [if_neg (by rw [HLl.out, HM.out]; simpa using hnm)]
    have qn : ((n : Int) != (m : Int)) = false := by rw [hnm]; simp
    have HNM := hiddenN hnm
    clear hnm
    go_wp2
    clear qn z0
    go_loopg [15] n (fun gk u wr => ∃ k : Nat, k ≤ n ∧ gk = n - k ∧ u = .int .i64 (k : Int) ∧ regE (pk.drop k) (L.drop k) = regE pk L ∧ Below W1.heap.size W1 wr)
    case atStart => exact ⟨0, Nat.zero_le _, rfl, rfl, by rw [List.drop_zero, List.drop_zero], Below.refl _ _⟩
    case round =>
      obtain ⟨k, hk, rfl, rfl, hr, hB⟩ := hrel
      have HR := hiddenN hr
      have HB := hiddenN hB
      clear hr hB
      by_cases hlt : k < n
      · have hki : (k : Int) < (n : Int) := by omega
        have hkm : (k : Int) < (m : Int) := by have := HNM.out; omega
        have hkL : k < L.length := by rw [HLl.out]; exact hlt
        have hkp : k < pk.length := by rw [HM.out, ← HNM.out]; exact hlt
        rcases HL.out.below HB.out with e1 | ⟨ab, off, rfl, hc⟩
        · rw [e1] at hkL; exact absurd hkL (Nat.not_lt_zero _)
        rcases HP.out with e1 | ⟨pb, po, rfl, hc2⟩
        · rw [e1] at hkp; exact absurd hkp (Nat.not_lt_zero _)
        obtain ⟨c0, c1⟩ := hc k hkL
        have p0 := cellN_later HB.out (hc2 k hkp)
        have RE : Hid ((if (nthX L k).1 < 0 ∨ 1024 < (nthX L k).1 ∨ (nthX L k).2 < 0 ∨ 1024 < (nthX L k).2 then 1 else if (nthX L k).2 < nth pk k then 190 else regE (pk.drop (k + 1)) (L.drop (k + 1))) = regE pk L) := by
          have q := HR.out
          have e : pk.drop k = nth pk k :: pk.drop (k + 1) := by
            rw [List.drop_eq_getElem_cons hkp]
            congr 1
            unfold nth
            rw [List.getD_eq_getElem?_getD, List.getElem?_eq_getElem hkp]; rfl
          rw [drop_nthX hkL, e, regE] at q
          exact q
        obtain ⟨x, hx⟩ : ∃ x, nthX L k = x := ⟨_, rfl⟩
        rw [hx] at c0 c1 RE
        obtain ⟨x1, x2⟩ := x
        simp only at c0 c1 RE
        generalize nth pk k = p at *
        have Gx := hiddenN (blkA_new 47 wr #[.int .i64 x1, .int .i64 x2])
        have bx : Hid (Below wr.heap.size wr (wr.alloc (.cells #[.int .i64 x1, .int .i64 x2] 47))) := (Below.refl _ _).alloc (Nat.le_refl _) _
        have HB2 := hiddenN (HB.out.trans (bx.out.mono HB.out.size))
        have p1 := cellN_later bx.out p0
        have z0 := (G0.out.below HB2.out).cell (k := 0) rfl
        simp only [List.getElem_toArray, List.getElem_cons_zero] at z0
        clear hc hc2 hkL hkp hx HR p0
        go_upto_region 6 with fail
        generalize wr.alloc (.cells #[.int .i64 x1, .int .i64 x2] 47) = W3 at *
        have y0 := Gx.out.cell (k := 0) rfl
        have y1 := Gx.out.cell (k := 1) rfl
        simp only [List.getElem_toArray, List.getElem_cons_zero, List.getElem_cons_succ] at y0 y1
        have I1 := hiddenN (inMemory_anyX x1 W3)
        have I2 := hiddenN (inMemory_anyX x2 W3)
        by_cases hx1 : 0 ≤ x1 ∧ x1 ≤ 1024
        · have e1 : (decide (0 ≤ x1) && decide (x1 ≤ 1024)) = true := by rw [decide_eq_true hx1.1, decide_eq_true hx1.2]; rfl
          rw [e1] at I1
          by_cases hx2 : 0 ≤ x2 ∧ x2 ≤ 1024
          · have e2 : (decide (0 ≤ x2) && decide (x2 ≤ 1024)) = true := by rw [decide_eq_true hx2.1, decide_eq_true hx2.2]; rfl
            rw [e2] at I2
            have RE2 : Hid ((if x2 < p then 190 else regE (pk.drop (k + 1)) (L.drop (k + 1))) = regE pk L) := by
              have q := RE.out
              rw [if_neg (by omega)] at q
              exact q
            clear RE hx1 hx2 e1 e2
            go_upto_region 8 with (first | (go_at_call 61; (with_reducible refine I1.out.mono ?_); rintro e w' ⟨rfl, rfl⟩) | (go_at_call 61; (with_reducible refine I2.out.mono ?_); rintro e w' ⟨rfl, rfl⟩))
            by_cases hp : x2 < p
            · have RE3 : Hid (regE pk L = 190) := by have q := RE2.out; rw [if_pos hp] at q; exact q.symm
              go_quiet (fail)
              go_wp2
              rw [← HPE.out]
              exact ⟨by rw [HE.out, RE3.out]; rfl, B0.out.trans ((drewB HB2.out nq).mono B0.out.size)⟩
            · have RE3 : Hid (regE (pk.drop (k + 1)) (L.drop (k + 1)) = regE pk L) := by have q := RE2.out; rw [if_neg hp] at q; exact q
              go_quiet (fail)
              go_wp2
              go_roundg (n - (k + 1))
              case measure => omega
              case rel => exact ⟨k + 1, by omega, rfl, by go_num, RE3.out, drewB HB2.out nq⟩
          · have e2 : (decide (0 ≤ x2) && decide (x2 ≤ 1024)) = false := by
              apply Bool.eq_false_iff.2
              intro q
              have := Bool.and_eq_true_iff.1 q
              exact hx2 ⟨of_decide_eq_true this.1, of_decide_eq_true this.2⟩
            rw [e2] at I2
            have RE3 : Hid (regE pk L = 1) := by have q := RE.out; rw [if_pos (by omega)] at q; exact q.symm
            clear RE hx1 hx2 e1 e2
            go_wp2_with (first | (go_at_call 61; (with_reducible refine I1.out.mono ?_); rintro e w' ⟨rfl, rfl⟩) | (go_at_call 61; (with_reducible refine I2.out.mono ?_); rintro e w' ⟨rfl, rfl⟩))
            rw [← HPE.out]
            exact ⟨by rw [HE.out, RE3.out]; rfl, B0.out.trans (HB2.out.mono B0.out.size)⟩
        · have e1 : (decide (0 ≤ x1) && decide (x1 ≤ 1024)) = false := by
            apply Bool.eq_false_iff.2
            intro q
            have := Bool.and_eq_true_iff.1 q
            exact hx1 ⟨of_decide_eq_true this.1, of_decide_eq_true this.2⟩
          rw [e1] at I1
          have RE3 : Hid (regE pk L = 1) := by have q := RE.out; rw [if_pos (by omega)] at q; exact q.symm
          clear RE hx1 e1
          go_wp2_with (go_at_call 61; (with_reducible refine I1.out.mono ?_); rintro e w' ⟨rfl, rfl⟩)
          rw [← HPE.out]
          exact ⟨by rw [HE.out, RE3.out]; rfl, B0.out.trans (HB2.out.mono B0.out.size)⟩
      · have hki : ¬ (k : Int) < (n : Int) := by omega
        have RE3 : Hid (regE pk L = 0) := by
          have q := HR.out
          have e9 : L.drop k = [] := List.drop_eq_nil_of_le (by rw [HLl.out]; omega)
          rw [e9] at q
          rw [← q]
          cases pk.drop k <;> rfl
        go_wp2
        rw [← HPE.out]
        exact ⟨by rw [HE.out, RE3.out], B0.out.trans (HB.out.mono B0.out.size)⟩
  · have HE : Hid (szE pk L = 1) := by show _ = _; unfold szE; rw [if_pos (by rw [HLl.out, HM.out]; exact hnm)]
    have qn : ((n : Int) != (m : Int)) = true := by simp; omega
    clear hnm
    go_wp2
    rw [← HPE.out]
    exact ⟨by rw [HE.out]; rfl, B0.out⟩
theorem made_zeroGn {w0 : World} {B g n : Nat} (h : w0.ownsRow B 47 2 (.slice (some ⟨g, 0, none⟩) n n) n (madeCells (Value.cells (.agg #[.int .i64 0, .int .i64 0])) (n * 2)).toList) : CapGn B w0 (some ⟨g, 0, none⟩) n (List.replicate n (0, 0)) := by
  unfold CapGn
  have e : (madeCells (Value.cells (.agg #[.int .i64 0, .int .i64 0])) (n * 2)).toList = flatGn (List.replicate n (0, 0)) := by
    show (madeCells #[.int .i64 0, .int .i64 0] (n * 2)).toList = _
    refine List.ext_getElem? fun k => ?_
    by_cases hk : k < n * 2
    · have q := flatGn_get (L := List.replicate n ((0 : Int), (0 : Int))) (k := k / 2) (j := k % 2) (by rw [List.length_replicate]; omega) (Nat.mod_lt k (by decide))
      rw [show k / 2 * 2 + k % 2 = k by omega] at q
      rw [q]
      have e2 : nthX (List.replicate n ((0 : Int), (0 : Int))) (k / 2) = (0, 0) := nthX_at (by rw [List.getElem?_replicate, if_pos (by omega)])
      rw [e2]
      rcases Nat.mod_two_eq_zero_or_one k with h | h <;> simp [madeCells, hk, h, celY]
    · rw [List.getElem?_eq_none (by rw [Array.length_toList]; simp [madeCells]; omega), List.getElem?_eq_none (by rw [flatGn_len, List.length_replicate]; omega)]
  rw [e] at h
  rw [List.length_replicate]
  exact h
theorem flatGn_set : ∀ (L : List (Int × Int)) (i : Nat) (b s : Int), i < L.length → ((flatGn L).set (i * 2) (.int .i64 b)).set (i * 2 + 1) (.int .i64 s) = flatGn (L.set i (b, s))
  | [], _, _, _, h => absurd h (Nat.not_lt_zero _)
  | x :: L, 0, b, s, _ => rfl
  | x :: L, i + 1, b, s, h => by
    have ih := flatGn_set L i b s (Nat.lt_of_succ_lt_succ h)
    rw [show (i + 1) * 2 = i * 2 + 2 by omega]
    show (Value.int .i64 x.1 :: Value.int .i64 x.2 :: ((flatGn L).set (i * 2) (.int .i64 b)).set (i * 2 + 1) (.int .i64 s)) = Value.int .i64 x.1 :: Value.int .i64 x.2 :: flatGn (L.set i (b, s))
    rw [ih]
theorem capGn_put {B g c i : Nat} {w : World} {L : List (Int × Int)} (h : CapGn B w (some ⟨g, 0, none⟩) c L) (hi : i < L.length) (b s : Int) : CapGn B ((w.setCell ⟨g, i * 2, none⟩ (.int .i64 b)).setCell ⟨g, i * 2 + 1, none⟩ (.int .i64 s)) (some ⟨g, 0, none⟩) c (L.set i (b, s)) := by
  unfold CapGn at h ⊢
  have h1 := (World.ownsRow.stored h (i * 2) (.int .i64 b)).1
  have h2 := (World.ownsRow.stored h1 (i * 2 + 1) (.int .i64 s)).1
  rw [flatGn_set L i b s hi] at h2
  rw [List.length_set]
  exact h2
theorem capGn_cells {B g c i : Nat} {w : World} {L : List (Int × Int)} (h : CapGn B w (some ⟨g, 0, none⟩) c L) (hi : i < L.length) : w.cell? ⟨g, i * 2, none⟩ = some (.int .i64 (nthX L i).1) ∧ w.cell? ⟨g, i * 2 + 1, none⟩ = some (.int .i64 (nthX L i).2) ∧ w.frozen? ⟨g, i * 2, none⟩ = false ∧ w.frozen? ⟨g, i * 2 + 1, none⟩ = false := by
  have q := h
  unfold CapGn at q
  rcases h.at with e | ⟨b, off, e, hc⟩
  · rw [e] at hi; exact absurd hi (Nat.not_lt_zero _)
  · cases e
    have c0 := hc i hi
    rw [Nat.zero_add] at c0
    exact ⟨c0.1, c0.2, World.ownsRow.frozenAt q _, World.ownsRow.frozenAt q _⟩
/-- Whether two arcs stand among the pairs is whether they clash. -/
theorem prd_clo {c : Nat → Nat → Bool} (hs : ∀ i j, c i j = c j i) {m i j : Nat} (hi : i < m) (hj : j < m) (hne : i ≠ j) : prdX ((prsV c m).map prI) i j = c i j := by
  have hb : (prdX ((prsV c m).map prI) i j = true) ↔ c i j = true := by
    unfold prdX memX
    rw [List.any_eq_true]
    constructor
    · rintro ⟨p, hp, hq⟩
      obtain ⟨q, hq1, rfl⟩ := List.mem_map.1 hp
      have hm := mem_prsV.1 hq1
      have h2 := Bool.and_eq_true_iff.1 hq
      have e1 : ((q.1 : Nat) : Int) = min (i : Int) (j : Int) := eq_of_beq h2.1
      have e2 : ((q.2 : Nat) : Int) = max (i : Int) (j : Int) := eq_of_beq h2.2
      by_cases hij : i < j
      · have a1 : q.1 = i := by omega
        have a2 : q.2 = j := by omega
        rw [a1, a2] at hm
        exact hm.2.2
      · have a1 : q.1 = j := by omega
        have a2 : q.2 = i := by omega
        rw [a1, a2] at hm
        rw [hs]
        exact hm.2.2
    · intro h
      by_cases hij : i < j
      · refine ⟨prI (i, j), List.mem_map.2 ⟨(i, j), mem_prsV.2 ⟨hij, hj, h⟩, rfl⟩, ?_⟩
        have e1 : min (i : Int) (j : Int) = (i : Int) := by omega
        have e2 : max (i : Int) (j : Int) = (j : Int) := by omega
        rw [e1, e2]
        simp [prI]
      · refine ⟨prI (j, i), List.mem_map.2 ⟨(j, i), mem_prsV.2 ⟨by show j < i; omega, hi, by rw [hs]; exact h⟩, rfl⟩, ?_⟩
        have e1 : min (i : Int) (j : Int) = (j : Int) := by omega
        have e2 : max (i : Int) (j : Int) = (i : Int) := by omega
        rw [e1, e2]
        simp [prI]
  cases h1 : c i j with
  | true => exact hb.2 h1
  | false =>
    apply Bool.eq_false_iff.2
    intro q
    rw [hb.1 q] at h1
    cases h1
/-- The peaks are no numbers below 0, and none is great. -/
theorem peaks_few {n : NN} {zs : List Int} (hc : codeV n zs = 0) (i : Nat) : 0 ≤ nth (mostM n zs) i ∧ nth (mostM n zs) i ≤ 1000000 := by
  by_cases hi : i < n.arcs.length
  · rw [mostM_nth hi]
    refine ⟨(maxV_from i _ 0).1, ?_⟩
    have h0 : ∀ r ∈ rowsV n (startT n) zs, 0 ≤ nth r i ∧ nth r i ≤ 1000000 := fun r hr => by
      obtain ⟨k, hk, e⟩ := List.getElem_of_mem hr
      rw [rows_len] at hk
      have q := row_few hc (k := k) (by omega) hi
      have e2 : nthLV (rowsV n (startT n) zs) k = r := by
        unfold nthLV
        rw [List.getD_eq_getElem?_getD, List.getElem?_eq_getElem (by rw [rows_len]; omega), e]
        rfl
      rw [e2] at q
      exact q
    rcases (maxV_from i (rowsV n (startT n) zs) 0).2.2 with e | ⟨r, hr, e⟩
    · show (rowsV n (startT n) zs).foldl (fun m r => max m (nth r i)) 0 ≤ _
      rw [e]; decide
    · show (rowsV n (startT n) zs).foldl (fun m r => max m (nth r i)) 0 ≤ _
      rw [e]; exact (h0 r hr).2
  · have e : nth (mostM n zs) i = 0 := by
      unfold nth
      rw [List.getD_eq_getElem?_getD, List.getElem?_eq_none (by rw [mostM_len]; omega)]
      rfl
    rw [e]; decide
theorem sumQ_few {S : Nat → Int} (hS : ∀ i, S i ≤ 1000000) : ∀ P : List (Nat × Int), sumQ S P ≤ 1000000 * (P.length : Int)
  | [] => Int.le_refl _
  | q :: P => by have := hS q.1; have := sumQ_few hS P; rw [sumQ, List.length_cons]; omega
/-- How great regions are while they are placed. -/
theorem regP_few {S : Nat → Int} (h0 : ∀ i, 0 ≤ S i) (hS : ∀ i, S i ≤ 1000000) {near : Nat → Nat → Bool} {P : List (Nat × Int)} (h : PlcP S near P) (hd : (P.map (·.1)).Nodup) (hl : P.length ≤ 1000) {m : Nat} : ∀ x ∈ regP S P m, 0 ≤ x.1 ∧ x.1 ≤ 1000000000000 ∧ 0 ≤ x.2 ∧ x.2 ≤ 1000000000000 := by
  intro x hx
  have hn := regP_nonneg h0 h hd x hx
  obtain ⟨i, hi, rfl⟩ := List.mem_map.1 hx
  by_cases q : i ∈ P.map (·.1)
  · rw [if_pos q] at hn ⊢
    obtain ⟨p, hp, rfl⟩ := List.mem_map.1 q
    have e := basP_mem hd p hp
    have s := h.short h0 p hp
    have s2 := sumQ_few hS P
    have s3 := h0 p.1
    have s4 := hS p.1
    have hn1 : 0 ≤ basP P p.1 := hn.1
    refine ⟨hn1, ?_, s3, ?_⟩
    · show basP P p.1 ≤ _
      rw [e]; omega
    · show S p.1 ≤ _
      omega
  · rw [if_neg q]
    decide
theorem riv_few {near : Nat → Nat → Bool} {L : List (Int × Int)} {i m : Nat} (hl : L.length = m) {p : Int × Int → Prop} (h : ∀ x ∈ L, p x) : ∀ x ∈ rivP near L i m, p x := by
  intro x hx
  obtain ⟨j, hj, -, rfl⟩ := riv_mem hx
  rw [List.getD_eq_getElem?_getD, List.getElem?_eq_getElem (by omega)]
  exact h _ (List.getElem_mem _)
/-- One more arc gets its base. -/
theorem place_next {S : Nat → Int} {near : Nat → Nat → Bool} {m k i : Nat} {l : List Nat} {P : List (Nat × Int)} (hd : l.Nodup) (hm : ∀ i, i ∈ l → i < m) (hk : l[k]? = some i) (hP : PlcP S near P) (he : P.map (·.1) = (l.take k).reverse) {b : Int} (hb : LstP (rivP near (regP S P m) i m) (S i) b) :
    PlcP S near ((i, b) :: P) ∧ ((i, b) :: P).map (·.1) = (l.take (k + 1)).reverse ∧ regP S ((i, b) :: P) m = (regP S P m).set i (b, S i) := by
  have hnd : (P.map (·.1)).Nodup := by rw [he]; exact List.pairwise_reverse.2 ((hd.sublist (List.take_sublist _ _)).imp fun hh e => hh e.symm)
  have hlt : ∀ q ∈ P, q.1 < m := fun q hq => hm _ (by
    have : q.1 ∈ (l.take k).reverse := by rw [← he]; exact List.mem_map.2 ⟨q, hq, rfl⟩
    exact List.mem_of_mem_take (List.mem_reverse.1 this))
  refine ⟨⟨hb.like fun c => riv_fre hnd hlt, hP⟩, ?_, regP_set (hm i (List.mem_of_getElem? hk))⟩
  rw [List.map_cons, he, List.take_add_one, hk]
  simp
theorem regP_nil (S : Nat → Int) (m : Nat) : regP S [] m = List.replicate m (0, 0) := by
  unfold regP
  refine List.ext_getElem? fun k => ?_
  rw [List.getElem?_map, List.getElem?_replicate]
  by_cases h : k < m
  · rw [List.getElem?_range h, if_pos h]; rfl
  · rw [if_neg h, List.getElem?_eq_none (by rw [List.length_range]; omega)]; rfl
/-- Where all have got one it is the plan. -/
theorem place_end {pk : List Int} (hS : ∀ i, 0 ≤ nth pk i) {R : List (List Int)} {near : Nat → Nat → Bool} {P : List (Nat × Int)} {l : List Nat} (h : PlcP (nth pk) near P) (he : P.map (·.1) = l.reverse) (hl : l.Pairwise (BefP (nth pk))) (hm : ∀ i, i ∈ l ↔ i < pk.length) (hn : ∀ i, i < pk.length → ∀ j, j < pk.length → i ≠ j → near i j = cloV R i j) : regP (nth pk) P pk.length = plnV pk R := by
  have e := pln_same hS h he hl hm hn
  rw [regP_all fun i hi => by rw [he, List.mem_reverse]; exact (hm i).2 hi, e]
  rfl
/-- What Place answers. -/
def plaC (n : NN) (zs : List Int) : Int := if dmC n zs = 0 then (if 1024 < celP (plnV (mostM n zs) (rowsV n (startT n) zs)) then 5 else 0) else dmC n zs
def plaL (n : NN) (zs : List Int) : List (Int × Int) := if plaC n zs = 0 then plnV (mostM n zs) (rowsV n (startT n) zs) else []
def plaT (n : NN) (zs : List Int) : Int := if plaC n zs = 0 then celP (plnV (mostM n zs) (rowsV n (startT n) zs)) else 0
def PlaE (n : NN) (zs : List Int) (w : World) (e : Ending) (w' : World) : Prop := ∃ d c', e = .returned (.tuple #[.agg #[.slice d (plaL n zs).length c', .int .i64 (plaT n zs)], .int .i64 (plaC n zs)]) ∧ CapGn w.heap.size w' d c' (plaL n zs) ∧ Below w.heap.size w w'
theorem dm_zero {n : NN} {zs : List Int} (h : dmC n zs = 0) : codeV n zs = 0 ∧ homeB n zs = true := by
  unfold dmC at h
  by_cases hc : codeV n zs = 0
  · rw [if_pos hc] at h
    by_cases hh : homeB n zs = true
    · exact ⟨hc, hh⟩
    · rw [if_neg hh] at h; cases h
  · rw [if_neg hc] at h; exact absurd h hc
/-- What Check answers. -/
def chkC (n : NN) (L : List (Int × Int)) (tot : Int) (zs : List Int) : Int := if dmC n zs = 0 then chkP (mostM n zs) (rowsV n (startT n) zs) L tot else dmC n zs
theorem Tryz.sizPl : (Tryz.prog.info? 41).map (·.size) = some 2 := by kernel_rfl
theorem nthN_map {l : List Nat} {k i : Nat} (h : l[k]? = some i) : nth (l.map Int.ofNat) k = (i : Int) := by
  unfold nth
  rw [List.getD_eq_getElem?_getD, List.getElem?_map, h]; rfl
set_option maxRecDepth 100000 in
set_option maxHeartbeats 16000000 in
theorem place_anyX (n : NN) (a : Option Addr) (c : Nat) (W : World) (h : AtN W a n.arcs) (hroom : n.arcs.length ≤ 4611686018427387904) (hna : a = none → n.arcs.length = 0 ∧ c = 0) (al : Option Addr) (cl : Nat) (zs : List Int) (hz : At W al zs) (hzl : zs.length ≤ 4611686018427387904) :
    Calls Tryz.prog 14 #[.agg #[.int .i64 n.nodes, .slice a n.arcs.length c], .slice al zs.length cl] W (PlaE n zs W) := by
  obtain ⟨PE, hPE⟩ : ∃ Q, PlaE n zs W = Q := ⟨_, rfl⟩
  rw [hPE]
  have HPE := hiddenN hPE
  have y1 : Hid (Below W.heap.size W (W.alloc (.cells #[.int .i64 n.nodes, .slice a n.arcs.length c] 24))) := (Below.refl _ _).alloc (Nat.le_refl _) _
  have hs1 : (W.alloc (.cells #[.int .i64 n.nodes, .slice a n.arcs.length c] 24)).heap.size = W.heap.size + 1 := World.size_alloc ..
  have y2 : Hid (Below (W.alloc (.cells #[.int .i64 n.nodes, .slice a n.arcs.length c] 24)).heap.size (W.alloc (.cells #[.int .i64 n.nodes, .slice a n.arcs.length c] 24)) ((W.alloc (.cells #[.int .i64 n.nodes, .slice a n.arcs.length c] 24)).alloc (.cells #[.slice none 0 0, .int .i64 0] 41))) := (Below.refl _ _).alloc (Nat.le_refl _) _
  have G0 := hiddenN ((blkA_new 24 W #[.int .i64 n.nodes, .slice a n.arcs.length c]).below y2.out)
  have D0 := hiddenN (blkA_new 41 (W.alloc (.cells #[.int .i64 n.nodes, .slice a n.arcs.length c] 24)) #[.slice none 0 0, .int .i64 0])
  have B0 := hiddenN (y1.out.trans (y2.out.mono (by rw [hs1]; omega)))
  have DM := hiddenN (demandOf_anyX n a c _ ((h.below y1.out).below y2.out) hroom hna al cl zs ((hz.below y1.out).below y2.out) hzl)
  rw [hs1] at D0
  clear hPE h hz y1 y2 hs1 hna
  have z0 := G0.out.cell (k := 0) rfl
  have z1 := G0.out.cell (k := 1) rfl
  simp only [List.getElem_toArray, List.getElem_cons_zero, List.getElem_cons_succ] at z0 z1
  by_cases h0 : dmC n zs = 0
  · have hcc := dm_zero h0
    have hS := check_sound (code_zero hcc.1).1
    have hmost := hS.most
    have PF0 : Hid (∀ i, 0 ≤ nth (mostM n zs) i) := fun i => (peaks_few hcc.1 i).1
    have PF1 : Hid (∀ i, nth (mostM n zs) i ≤ 1000000) := fun i => (peaks_few hcc.1 i).2
    have HNR : Hid (∀ i, i < (mostM n zs).length → ∀ j, j < (mostM n zs).length → i ≠ j → prdX (cloL n zs) i j = cloV (rowsV n (startT n) zs) i j) := fun i hi j hj hne => by
      rw [mostM_len] at hi hj
      unfold cloL
      rw [if_pos hcc.1]
      exact prd_clo (cloV_swap _) hi hj hne
    have HPL6 : Hid ((cloL n zs).length ≤ 1000000) := cloL_few hcc.1 (cloL n zs) [] (List.append_nil _)
    have HML := hiddenN (mostM_len n zs)
    have DY : Hid (Calls Tryz.prog 29 #[.agg #[.int .i64 n.nodes, .slice a n.arcs.length c], .slice al zs.length cl] ((W.alloc (.cells #[.int .i64 n.nodes, .slice a n.arcs.length c] 24)).alloc (.cells #[.slice none 0 0, .int .i64 0] 41)) fun e w' => ∃ am cm ap cp, e = .returned (.tuple #[.agg #[.slice am n.arcs.length cm, .slice ap (cloL n zs).length cp], .int .i64 0]) ∧ CapR ((W.alloc (.cells #[.int .i64 n.nodes, .slice a n.arcs.length c] 24)).alloc (.cells #[.slice none 0 0, .int .i64 0] 41)).heap.size w' am cm (mostM n zs) ∧ CapPp ((W.alloc (.cells #[.int .i64 n.nodes, .slice a n.arcs.length c] 24)).alloc (.cells #[.slice none 0 0, .int .i64 0] 41)).heap.size w' ap cp (cloL n zs) ∧ Below ((W.alloc (.cells #[.int .i64 n.nodes, .slice a n.arcs.length c] 24)).alloc (.cells #[.slice none 0 0, .int .i64 0] 41)).heap.size ((W.alloc (.cells #[.int .i64 n.nodes, .slice a n.arcs.length c] 24)).alloc (.cells #[.slice none 0 0, .int .i64 0] 41)) w') := DM.out.mono fun e w' hh => by
      rcases hh with ⟨-, q⟩ | ⟨k1, -⟩
      · exact q
      · exact absurd h0 k1
    have HEY : Hid (¬ 1024 < celP (plnV (mostM n zs) (rowsV n (startT n) zs)) → ∀ (wz : World) d c', CapGn W.heap.size wz d c' (plnV (mostM n zs) (rowsV n (startT n) zs)) → Below W.heap.size W wz → PE (.returned (.tuple #[.agg #[.slice d n.arcs.length c', .int .i64 (celP (plnV (mostM n zs) (rowsV n (startT n) zs)))], .int .i64 0])) wz) := fun hle wz d c' q1 q2 => by
      rw [← HPE.out]
      have e : plaC n zs = 0 := by unfold plaC; rw [if_pos h0, if_neg hle]
      refine ⟨d, c', ?_, ?_, q2⟩
      · unfold plaL plaT
        rw [if_pos e, if_pos e, e, plnV_len, mostM_len]
      · unfold plaL
        rw [if_pos e]; exact q1
    have HEN : Hid (1024 < celP (plnV (mostM n zs) (rowsV n (startT n) zs)) → ∀ (wz : World), Below W.heap.size W wz → PE (.returned (.tuple #[.agg #[.slice none 0 0, .int .i64 0], .int .i64 5])) wz) := fun hgt wz q2 => by
      rw [← HPE.out]
      have e : plaC n zs = 5 := by unfold plaC; rw [if_pos h0, if_pos hgt]
      refine ⟨none, 0, ?_, ?_, q2⟩
      · unfold plaL plaT
        rw [if_neg (by rw [e]; decide), if_neg (by rw [e]; decide), e]; rfl
      · unfold plaL
        rw [if_neg (by rw [e]; decide)]; exact CapGn.nil _ _
    have HEND : Hid (∀ (P : List (Nat × Int)) (l : List Nat), PlcP (nth (mostM n zs)) (prdX (cloL n zs)) P → P.map (·.1) = l.reverse → l.Pairwise (BefP (nth (mostM n zs))) → (∀ i, i ∈ l ↔ i < (mostM n zs).length) → regP (nth (mostM n zs)) P (mostM n zs).length = plnV (mostM n zs) (rowsV n (startT n) zs)) := fun P l q1 q2 q3 q4 => place_end PF0.out q1 q2 q3 q4 HNR.out
    clear DM HPE hcc hS h0 HNR
    generalize plnV (mostM n zs) (rowsV n (startT n) zs) = PV at *
    generalize cloL n zs = PL at *
    generalize mostM n zs = pk at *
    obtain ⟨m, hm⟩ : ∃ m, n.arcs.length = m := ⟨_, rfl⟩
    obtain ⟨np, hnp⟩ : ∃ np, PL.length = np := ⟨_, rfl⟩
    have HNP := hiddenN hnp
    rw [hm] at HML HEY hmost DY z0 z1 G0 D0 B0 ⊢
    rw [hnp] at HPL6 DY
    clear hm
    obtain ⟨i0, hi, hz0, hz1, hz2⟩ := info_parts Tryz.infoGn
    clear hnp
    go_enter Tryz.func14, Tryz.ntmps14
    go_upto_region 1 with fail
    generalize ((W.alloc (.cells #[.int .i64 n.nodes, .slice a m c] 24)).alloc (.cells #[.slice none 0 0, .int .i64 0] 41)) = W1 at *
    obtain ⟨nb, hnb⟩ : ∃ q, W.heap.size = q := ⟨_, rfl⟩
    rw [hnb] at G0 D0 B0 HEY HEN z0 z1 ⊢
    have hnb1 : nb + 1 < W1.heap.size := D0.out.lt
    clear hnb
    go_upto_region 4 with (go_at_call 29; (with_reducible refine DY.out.mono ?_); rintro e W2 ⟨am, cm, ap, cp, rfl, q1, q2, q3⟩; have R2 := hiddenN q1; have P2 := hiddenN q2; have B2 := hiddenN q3; clear q1 q2 q3)
    obtain ⟨db, hdb⟩ : ∃ q, W2.heap.size = q := ⟨_, rfl⟩
    have y3 : Hid (Below W2.heap.size W2 (W2.alloc (.cells #[.slice am m cm, .slice ap np cp] 64))) := (Below.refl _ _).alloc (Nat.le_refl _) _
    have X3 := hiddenN (blkA_new 64 W2 #[.slice am m cm, .slice ap np cp])
    have hs3 : (W2.alloc (.cells #[.slice am m cm, .slice ap np cp] 64)).heap.size = W2.heap.size + 1 := World.size_alloc ..
    have R3 := hiddenN (R2.out.later y3.out)
    have P3 := hiddenN (P2.out.later y3.out)
    have B3 := hiddenN (B2.out.trans (y3.out.mono B2.out.size))
    have HRlt : Hid (∀ y, am = some y → y.block < db) := fun y hy => by rw [← hdb]; exact (R2.out.lt y hy).2
    have HPlt : Hid (∀ y, ap = some y → y.block < db) := fun y hy => by rw [← hdb]; exact (P2.out.lt y hy).2
    have h12 := B2.out.size
    clear z0 z1 R2 P2 B2 y3 DY
    generalize W2.alloc (.cells #[.slice am m cm, .slice ap np cp] 64) = W3 at *
    rw [hdb] at X3 hs3 h12 ⊢
    clear hdb
    have z1 := (G0.out.below B3.out).cell (k := 1) rfl
    simp only [List.getElem_toArray, List.getElem_cons_zero, List.getElem_cons_succ] at z1
    obtain ⟨Q, hQ⟩ : ∃ q, W3.heap.size = q := ⟨_, rfl⟩
    have hQd : db < Q := by omega
    clear hs3
    go_upto_region 5 with (at_make; refine wpList_make_full _ rfl _ _ 39 rfl Q 47 i0 (.agg #[.int .i64 0, .int .i64 0]) 2 Tryz.underlying39 hi hz0 hz1 _ _ _ _ m rfl rfl rfl rfl (by rw [hz2]; omega) (by unfold maxLen; omega) (Nat.le_of_eq hQ.symm) ?_; intro W4 hown0 hgrow0; have C4 := hiddenN (made_zeroGn hown0); have B4 := hiddenN ((Below.refl Q W3).grown hgrow0 (Nat.le_of_eq hQ.symm) (fun k h => by cases h)); clear hown0 hgrow0)
    have C4' : Hid (CapGn Q W4 (some ⟨Q, 0, none⟩) m (regP (nth pk) [] m)) := by show CapGn _ _ _ _ _; rw [regP_nil]; have q := C4.out; rw [hQ] at q; exact q
    have hQ4 : Q < W4.heap.size := (C4'.out.lt _ rfl).2
    have B4' : Hid (Below W3.heap.size W3 W4) := by show Below _ _ _; rw [hQ]; exact B4.out
    have R4 := hiddenN (R3.out.later B4'.out)
    have P4 := hiddenN (P3.out.later B4'.out)
    have X4 := hiddenN (X3.out.below B4'.out)
    have B40 := hiddenN (B3.out.trans (B4'.out.mono B3.out.size))
    have TU := hiddenN (turns_anyX (.slice ap np cp) am m cm pk W4 R4.out.at HML.out (by omega) (fun y hy => by have := HRlt.out y hy; omega))
    have x0 := X4.out.cell (k := 0) rfl
    have x1 := X4.out.cell (k := 1) rfl
    simp only [List.getElem_toArray, List.getElem_cons_zero, List.getElem_cons_succ] at x0 x1
    clear C4 B4 B4' hi hz0 hz1 hz2 z1 R3 P3 X3 B3
    go_upto_region 6 with (go_at_call 30; (with_reducible refine TU.out.mono ?_); rintro e W5 ⟨g, l, rfl, q1, q2, q3, q4, q5⟩; have L1 := hiddenN q1; have L2 := hiddenN q2; have L3 := hiddenN q3; have T5 := hiddenN q4; have B5 := hiddenN q5; clear q1 q2 q3 q4 q5)
    have R5 := hiddenN (R4.out.later B5.out)
    have P5 := hiddenN (P4.out.later B5.out)
    have X5 := hiddenN (X4.out.below B5.out)
    have C5 := hiddenN (C4'.out.later B5.out)
    have B50 := hiddenN (B40.out.trans (B5.out.mono B40.out.size))
    have hgW := (T5.out.lt _ rfl)
    have hW45 := B5.out.size
    have h10 := B40.out.size
    simp only at hgW
    clear R4 P4 X4 C4' B40 TU x0 x1 B5
    go_wp2
    go_loopg [30] m (fun gk u wr => ∃ (k : Nat) (P : List (Nat × Int)), k ≤ m ∧ gk = m - k ∧ u = .int .i64 (k : Int) ∧ PlcP (nth pk) (prdX PL) P ∧ P.map (·.1) = (l.take k).reverse ∧ CapGn Q wr (some ⟨Q, 0, none⟩) m (regP (nth pk) P m) ∧ But Q W5 wr)
    case atStart => exact ⟨0, [], Nat.zero_le _, rfl, rfl, trivial, by rw [List.take_zero]; rfl, C5.out, But.of_below (Below.refl _ _)⟩
    case round =>
      clear C5
      obtain ⟨k, P, hk, rfl, rfl, h1, h2, h3, h4⟩ := hrel
      have HP := hiddenN h1
      have HE := hiddenN h2
      have HC := hiddenN h3
      have HBt := hiddenN h4
      have hszr := h4.size
      clear h1 h2 h3 h4
      by_cases hlt : k < m
      · have hki : (k : Int) < (m : Int) := by omega
        have hkl : k < l.length := by rw [L1.out]; exact hlt
        obtain ⟨i, hi⟩ : ∃ i, l[k]? = some i := ⟨_, List.getElem?_eq_getElem hkl⟩
        have him : i < m := (L3.out i).1 (List.mem_of_getElem? hi)
        have hii : (i : Int) < (m : Int) := by omega
        have HI := hiddenN hi
        have Tr := hiddenN (T5.out.keep (w' := wr) fun x hx => by cases hx; exact HBt.out.block g hgW.2 (by omega))
        have t0 := CapR.nthCell Tr.out (k := k) (by rw [List.length_map]; exact hkl)
        rw [nthN_map hi] at t0
        have Rr := hiddenN (R5.out.keep (w' := wr) fun x hx => HBt.out.block _ (R5.out.lt x hx).2 (by have := HRlt.out x hx; omega))
        have Pr := hiddenN (P5.out.keep (w' := wr) fun x hx => HBt.out.block _ (P5.out.lt x hx).2 (by have := HPlt.out x hx; omega))
        have Xr := hiddenN (X5.out.keep (w' := wr) (HBt.out.block db X5.out.lt (by omega)))
        have x0 := Xr.out.cell (k := 0) rfl
        have x1 := Xr.out.cell (k := 1) rfl
        simp only [List.getElem_toArray, List.getElem_cons_zero, List.getElem_cons_succ] at x0 x1
        obtain ⟨pb, po, ham, hc⟩ : ∃ pb po, am = some ⟨pb, po, none⟩ ∧ ∀ k, k < pk.length → wr.cell? ⟨pb, po + k, none⟩ = some (.int .i64 (nth pk k)) := by
          rcases Rr.out.at with e1 | ⟨b, off, e1, hc⟩
          · have := HML.out; rw [e1] at this; simp at this; omega
          · exact ⟨b, off, e1, hc⟩
        subst ham
        have p0 := hc i (by rw [HML.out]; exact him)
        obtain ⟨s, hs⟩ : ∃ s, nth pk i = s := ⟨_, rfl⟩
        rw [hs] at p0
        have HS := hiddenN hs
        have hs01 : 0 ≤ s ∧ s ≤ 1000000000000 := by have h9 := PF0.out i; have h8 := PF1.out i; rw [hs] at h9 h8; omega
        have hPl : P.length ≤ 1000 := by
          have e := congrArg List.length HE.out
          rw [List.length_map, List.length_reverse, List.length_take] at e
          omega
        have hnd : (P.map (·.1)).Nodup := by
          rw [HE.out]
          have hl : l.Nodup := L2.out.imp fun hh e => by subst e; exact hh.not hh
          exact List.pairwise_reverse.2 ((hl.sublist (List.take_sublist _ _)).imp fun hh e => hh e.symm)
        have hfew := regP_few PF0.out PF1.out HP.out hnd hPl (m := m)
        have HF := hiddenN (riv_few (near := prdX PL) (i := i) (regP_len (nth pk) P m) hfew)
        have HFl := hiddenN (rivX_len (prdX PL) (regP (nth pk) P m) i m)
        have RV := hiddenN (rivals_anyX (.slice (some ⟨pb, po, none⟩) m cm) ap np cp PL i (some ⟨Q, 0, none⟩) m m (regP (nth pk) P m) wr Pr.out.at HNP.out HPL6.out HC.out.at (regP_len _ _ _) (by omega))
        obtain ⟨F, hF⟩ : ∃ F, rivP (prdX PL) (regP (nth pk) P m) i m = F := ⟨_, rfl⟩
        have HFF := hiddenN hF
        rw [hF] at HF HFl RV
        obtain ⟨nF, hNF⟩ : ∃ nF, F.length = nF := ⟨_, rfl⟩
        rw [hNF] at HFl RV
        have HNF := hiddenN hNF
        clear hc hi hkl hs hnd hPl hfew hF hNF
        go_upto_region 9 with fail
        go_upto_region 10 with (first
          | (go_at_call 32; go_loud ((with_reducible refine RV.out.mono ?_); rintro e W6 ⟨d, c6, rfl, q1, q2⟩; have F6 := hiddenN q1; have B6 := hiddenN q2; have LW : Hid (Calls Tryz.prog 31 #[.int .i64 s, .slice d nF c6] W6 fun e w' => (∃ b, e = .returned (.int .i64 b) ∧ LstP F s b) ∧ Below wr.heap.size W6 w') := (by have q := lowest_anyX s d c6 F W6 q1 q2.size (by rw [HNF.out]; have := HFl.out; omega) HF.out hs01; rw [HNF.out] at q; exact q); clear q1 q2))
          | (go_at_call 31; go_loud ((with_reducible refine LW.out.mono ?_); rintro e W7 ⟨⟨b, rfl, q1⟩, q2⟩; have HL7 := hiddenN q1; have B7 := hiddenN (B6.out.trans q2); clear q1 q2; have C7 := hiddenN (HC.out.keep (w' := W7) fun x hx => by cases hx; exact B7.out.block Q (by show Q < wr.heap.size; omega)); obtain ⟨k0, k1, k2, k3⟩ := capGn_cells C7.out (i := i) (by rw [regP_len]; exact him))))
        have NX := place_next (m := m) (i := i) (k := k) (l := l) (P := P) (S := nth pk) (near := prdX PL) (b := b) (L2.out.imp fun hh e => by subst e; exact hh.not hh) (fun j hj => (L3.out j).1 hj) HI.out HP.out HE.out (by rw [HFF.out, HS.out]; exact HL7.out)
        have N1 := hiddenN NX.1
        have N2 := hiddenN NX.2.1
        have N3 := hiddenN NX.2.2
        have C8 := hiddenN (capGn_put C7.out (i := i) (by rw [regP_len]; exact him) b s)
        have Bt8 := hiddenN (((HBt.out.trans (But.of_below B7.out)).trans (But.set W7 Q (i * 2) (.int .i64 b))).trans (But.set _ Q (i * 2 + 1) (.int .i64 s)))
        clear NX k0 k1 k2 k3
        go_wp2
        go_roundg (m - (k + 1))
        case measure => omega
        case rel => exact ⟨k + 1, (i, b) :: P, by omega, rfl, by go_num, N1.out, N2.out, by rw [N3.out, HS.out]; exact C8.out, Bt8.out⟩
      · have hki : ¬ (k : Int) < (m : Int) := by omega
        have hkm : k = m := by omega
        have HPV : Hid (regP (nth pk) P m = PV) := by
          have q := HEND.out P l HP.out (by rw [HE.out, List.take_of_length_le (by rw [L1.out]; omega)]) L2.out (fun i => by rw [HML.out]; exact L3.out i)
          rw [HML.out] at q
          exact q
        have hPl : P.length ≤ 1000 := by
          have e := congrArg List.length HE.out
          rw [List.length_map, List.length_reverse, List.length_take] at e
          omega
        have hnd : (P.map (·.1)).Nodup := by
          rw [HE.out]
          have hl : l.Nodup := L2.out.imp fun hh e => by subst e; exact hh.not hh
          exact List.pairwise_reverse.2 ((hl.sublist (List.take_sublist _ _)).imp fun hh e => hh e.symm)
        have hfew := regP_few PF0.out PF1.out HP.out hnd hPl (m := m)
        rw [HPV.out] at hfew
        have CV : Hid (CapGn Q wr (some ⟨Q, 0, none⟩) m PV) := by show CapGn _ _ _ _ _; rw [← HPV.out]; exact HC.out
        have CE := hiddenN (cells_anyX (some ⟨Q, 0, none⟩) m m PV wr CV.out.at (by rw [← HPV.out]; exact regP_len _ _ _) (by omega) (fun x hx => by have := hfew x hx; rw [IntKind.wrap_i64]; omega))
        have Bw := hiddenN (B50.out.trans (HBt.out.below (B := W1.heap.size) (by omega) (by omega)))
        generalize celP PV = tot at *
        clear hkm hnd hPl hfew HPV HC HP HE HEND
        by_cases hgt : 1024 < tot
        · have hgt' : tot > 1024 := hgt
          have EN := hiddenN (HEN.out (by omega))
          clear hgt HEY HEN
          go_upto_region 13 with (go_at_call 33; (with_reducible refine CE.out.mono ?_); rintro e W9 ⟨rfl, hg⟩; have b9 := hiddenN (grn_below hg (Nat.le_refl wr.heap.size)); clear hg)
          have Bz := hiddenN (Bw.out.trans (b9.out.mono Bw.out.size))
          have D9 := hiddenN (D0.out.below Bz.out)
          go_wp2_with (refine wpList_storeW _ rfl 41 (.tmp 4) (.tmp 55) rfl rfl (nb + 1) 41 _ _ rfl rfl D9.out Tryz.sizPl rfl rfl ?_; intro w8 hN hU; have x0 := hN.cell (k := 0) rfl; have x1 := hN.cell (k := 1) rfl; simp only [List.getElem_toArray, List.getElem_cons_zero, List.getElem_cons_succ] at x0 x1; have U8 := hiddenN hU; clear hN hU)
          refine bodyPost_ret (v := .tuple #[.agg #[.slice none 0 0, .int .i64 0], .int .i64 5]) (by simp [results, Tryz.results14, go_sem, x0, x1]) rfl ?_
          exact EN.out w8 (B0.out.trans ((Bz.out.mono (by omega)).trans (U8.out.below (by omega) (by have := Bz.out.size; omega))))
        · have hgt' : ¬ tot > 1024 := hgt
          have EY := hiddenN (HEY.out (by omega))
          clear hgt HEY HEN
          go_upto_region 14 with (go_at_call 33; (with_reducible refine CE.out.mono ?_); rintro e W9 ⟨rfl, hg⟩; have b9 := hiddenN (grn_below hg (Nat.le_refl wr.heap.size)); clear hg)
          have Bz := hiddenN (Bw.out.trans (b9.out.mono Bw.out.size))
          have D9 := hiddenN (D0.out.below Bz.out)
          have C9 := hiddenN (CV.out.later b9.out)
          go_wp2_with (refine wpList_storeW _ rfl 41 (.tmp 4) (.tmp 58) rfl rfl (nb + 1) 41 _ _ rfl rfl D9.out Tryz.sizPl rfl rfl ?_; intro w8 hN hU; have x0 := hN.cell (k := 0) rfl; have x1 := hN.cell (k := 1) rfl; simp only [List.getElem_toArray, List.getElem_cons_zero, List.getElem_cons_succ] at x0 x1; have U8 := hiddenN hU; clear hN hU)
          refine bodyPost_ret (v := .tuple #[.agg #[.slice (some ⟨Q, 0, none⟩) m m, .int .i64 tot], .int .i64 0]) (by simp [results, Tryz.results14, go_sem, x0, x1]) rfl ?_
          exact EY.out w8 _ _ ((C9.out.keep fun x hx => by cases hx; exact U8.out.block Q (by have := (C9.out.lt _ rfl).2; exact this) (by omega)).mono (by omega)) (B0.out.trans ((Bz.out.mono (by omega)).trans (U8.out.below (by omega) (by have := Bz.out.size; omega))))
  · have HEND : Hid (∀ (wz : World), Below W.heap.size W wz → PE (.returned (.tuple #[.agg #[.slice none 0 0, .int .i64 0], .int .i64 (dmC n zs)])) wz) := fun wz q2 => by
      rw [← HPE.out]
      have e : plaC n zs = dmC n zs := if_neg h0
      refine ⟨none, 0, ?_, ?_, q2⟩
      · unfold plaL plaT
        rw [if_neg (by rw [e]; exact h0), if_neg (by rw [e]; exact h0), e]; rfl
      · unfold plaL
        rw [if_neg (by rw [e]; exact h0)]; exact CapGn.nil _ _
    have DN : Hid (Calls Tryz.prog 29 #[.agg #[.int .i64 n.nodes, .slice a n.arcs.length c], .slice al zs.length cl] ((W.alloc (.cells #[.int .i64 n.nodes, .slice a n.arcs.length c] 24)).alloc (.cells #[.slice none 0 0, .int .i64 0] 41)) fun e w' => e = .returned (.tuple #[.agg #[.slice none 0 0, .slice none 0 0], .int .i64 (dmC n zs)]) ∧ Below ((W.alloc (.cells #[.int .i64 n.nodes, .slice a n.arcs.length c] 24)).alloc (.cells #[.slice none 0 0, .int .i64 0] 41)).heap.size ((W.alloc (.cells #[.int .i64 n.nodes, .slice a n.arcs.length c] 24)).alloc (.cells #[.slice none 0 0, .int .i64 0] 41)) w') := DM.out.mono fun e w' hh => by
      rcases hh with ⟨k1, -⟩ | ⟨-, e1, q⟩
      · exact absurd k1 h0
      · exact ⟨e1, q⟩
    have qc : (dmC n zs != 0) = true := by simpa using h0
    clear DM HPE h0
    generalize dmC n zs = cd at *
    go_enter Tryz.func14, Tryz.ntmps14
    go_upto_region 1 with fail
    generalize ((W.alloc (.cells #[.int .i64 n.nodes, .slice a n.arcs.length c] 24)).alloc (.cells #[.slice none 0 0, .int .i64 0] 41)) = W1 at *
    obtain ⟨nb, hnb⟩ : ∃ q, W.heap.size = q := ⟨_, rfl⟩
    rw [hnb] at G0 D0 B0 HEND z0 z1 ⊢
    have hnb1 : nb + 1 < W1.heap.size := D0.out.lt
    clear hnb
    go_upto_region 3 with (go_at_call 29; (with_reducible refine DN.out.mono ?_); rintro e W2 ⟨rfl, q⟩; have B2 := hiddenN q; clear q)
    have y3 : Hid (Below W2.heap.size W2 (W2.alloc (.cells #[.slice none 0 0, .slice none 0 0] 64))) := (Below.refl _ _).alloc (Nat.le_refl _) _
    have B3 := hiddenN (B2.out.trans (y3.out.mono B2.out.size))
    have D3 := hiddenN (D0.out.below B3.out)
    clear z0 z1 y3 B2
    generalize W2.alloc (.cells #[.slice none 0 0, .slice none 0 0] 64) = W3 at *
    go_wp2_with (refine wpList_storeW _ rfl 41 (.tmp 4) (.tmp 21) rfl rfl (nb + 1) 41 _ _ rfl rfl D3.out Tryz.sizPl rfl rfl ?_; intro w8 hN hU; have x0 := hN.cell (k := 0) rfl; have x1 := hN.cell (k := 1) rfl; simp only [List.getElem_toArray, List.getElem_cons_zero, List.getElem_cons_succ] at x0 x1; have U8 := hiddenN hU; clear hN hU)
    refine bodyPost_ret (v := .tuple #[.agg #[.slice none 0 0, .int .i64 0], .int .i64 cd]) (by simp [results, Tryz.results14, go_sem, x0, x1]) rfl ?_
    exact HEND.out w8 (B0.out.trans ((B3.out.mono (by omega)).trans (U8.out.below (by omega) (by have := B3.out.size; omega))))
theorem chk_sizes {pk : List Int} {R : List (List Int)} {L : List (Int × Int)} {tot : Int} (h : szE pk L ≠ 0) : chkP pk R L tot = szE pk L := by
  unfold chkP
  unfold szE at h ⊢
  by_cases e : L.length = pk.length
  · rw [if_neg (fun q => q e)] at h
    rw [if_neg (fun q => q e), if_pos h, if_neg (fun q => q e)]
  · rw [if_pos e, if_pos e]
theorem chk_tail {pk : List Int} {R : List (List Int)} {L : List (Int × Int)} {tot : Int} (h : szE pk L = 0) : chkP pk R L tot = (if ¬ tot = celP L then 191 else if 1024 < tot then 5 else if (prsV (cloV R) pk.length).any (fun p => shrB (nthX L p.1) (nthX L p.2)) = true then 192 else 0) ∧ L.length = pk.length ∧ ∀ x ∈ L, 0 ≤ x.1 ∧ x.1 ≤ 1024 ∧ 0 ≤ x.2 ∧ x.2 ≤ 1024 := by
  unfold szE at h
  by_cases e : L.length = pk.length
  · rw [if_neg (fun q => q e)] at h
    refine ⟨?_, e, fun x hx => ?_⟩
    · unfold chkP
      rw [if_neg (fun q => q e), if_neg (fun q => q h)]
    · obtain ⟨i, hi, ex⟩ := List.getElem_of_mem hx
      have q := (regE_zero e.symm).1 h i _ x (List.getElem?_eq_getElem (by omega)) (by rw [List.getElem?_eq_getElem hi, ex])
      omega
  · rw [if_pos e] at h; cases h
theorem any_cut {α : Type} {f : α → Bool} {l : List α} {k : Nat} {x : α} (h : l[k]? = some x) : (l.drop k).any f = (f x || (l.drop (k + 1)).any f) := by
  obtain ⟨hk, e⟩ := List.getElem?_eq_some_iff.1 h
  rw [List.drop_eq_getElem_cons hk, List.any_cons, e]
set_option maxRecDepth 100000 in
set_option maxHeartbeats 16000000 in
theorem check_anyX (n : NN) (a : Option Addr) (c : Nat) (W : World) (h : AtN W a n.arcs) (hroom : n.arcs.length ≤ 4611686018427387904) (hna : a = none → n.arcs.length = 0 ∧ c = 0) (al : Option Addr) (cl : Nat) (zs : List Int) (hz : At W al zs) (hzl : zs.length ≤ 4611686018427387904) (ar : Option Addr) (nr cr : Nat) (L : List (Int × Int)) (tot : Int) (hL : AtGn W ar L) (hLl : L.length = nr) :
    Calls Tryz.prog 17 #[.agg #[.int .i64 n.nodes, .slice a n.arcs.length c], .agg #[.slice ar nr cr, .int .i64 tot], .slice al zs.length cl] W fun e w' => e = .returned (.int .i64 (chkC n L tot zs)) ∧ Below W.heap.size W w' := by
  have mixed : Tryz.prog.follows .mixedOrders = true := by kernel_rfl
  obtain ⟨PE, hPE⟩ : ∃ Q : Ending → World → Prop, (fun e w' => e = .returned (.int .i64 (chkC n L tot zs)) ∧ Below W.heap.size W w') = Q := ⟨_, rfl⟩
  rw [hPE]
  have HPE := hiddenN hPE
  have y1 : Hid (Below W.heap.size W (W.alloc (.cells #[.int .i64 n.nodes, .slice a n.arcs.length c] 24))) := (Below.refl _ _).alloc (Nat.le_refl _) _
  have hs1 : (W.alloc (.cells #[.int .i64 n.nodes, .slice a n.arcs.length c] 24)).heap.size = W.heap.size + 1 := World.size_alloc ..
  have y2 : Hid (Below (W.alloc (.cells #[.int .i64 n.nodes, .slice a n.arcs.length c] 24)).heap.size (W.alloc (.cells #[.int .i64 n.nodes, .slice a n.arcs.length c] 24)) ((W.alloc (.cells #[.int .i64 n.nodes, .slice a n.arcs.length c] 24)).alloc (.cells #[.slice ar nr cr, .int .i64 tot] 41))) := (Below.refl _ _).alloc (Nat.le_refl _) _
  have G0 := hiddenN ((blkA_new 24 W #[.int .i64 n.nodes, .slice a n.arcs.length c]).below y2.out)
  have D0 := hiddenN (blkA_new 41 (W.alloc (.cells #[.int .i64 n.nodes, .slice a n.arcs.length c] 24)) #[.slice ar nr cr, .int .i64 tot])
  have B0 := hiddenN (y1.out.trans (y2.out.mono (by rw [hs1]; omega)))
  have HL0 := hiddenN ((hL.below y1.out).below y2.out)
  have HLl := hiddenN hLl
  have DM := hiddenN (demandOf_anyX n a c _ ((h.below y1.out).below y2.out) hroom hna al cl zs ((hz.below y1.out).below y2.out) hzl)
  rw [hs1] at D0
  clear hPE h hz y1 y2 hs1 hna hL hLl
  have z0 := G0.out.cell (k := 0) rfl
  have z1 := G0.out.cell (k := 1) rfl
  simp only [List.getElem_toArray, List.getElem_cons_zero, List.getElem_cons_succ] at z0 z1
  by_cases h0 : dmC n zs = 0
  · have hcc := dm_zero h0
    have hmost := (check_sound (code_zero hcc.1).1).most
    have HPL6 : Hid ((cloL n zs).length ≤ 1000000) := cloL_few hcc.1 (cloL n zs) [] (List.append_nil _)
    have HML := hiddenN (mostM_len n zs)
    have HCL : Hid (cloL n zs = (prsV (cloV (rowsV n (startT n) zs)) n.arcs.length).map prI) := if_pos hcc.1
    have HCH : Hid (chkC n L tot zs = chkP (mostM n zs) (rowsV n (startT n) zs) L tot) := if_pos h0
    have DY : Hid (Calls Tryz.prog 29 #[.agg #[.int .i64 n.nodes, .slice a n.arcs.length c], .slice al zs.length cl] ((W.alloc (.cells #[.int .i64 n.nodes, .slice a n.arcs.length c] 24)).alloc (.cells #[.slice ar nr cr, .int .i64 tot] 41)) fun e w' => ∃ am cm ap cp, e = .returned (.tuple #[.agg #[.slice am n.arcs.length cm, .slice ap (cloL n zs).length cp], .int .i64 0]) ∧ CapR ((W.alloc (.cells #[.int .i64 n.nodes, .slice a n.arcs.length c] 24)).alloc (.cells #[.slice ar nr cr, .int .i64 tot] 41)).heap.size w' am cm (mostM n zs) ∧ CapPp ((W.alloc (.cells #[.int .i64 n.nodes, .slice a n.arcs.length c] 24)).alloc (.cells #[.slice ar nr cr, .int .i64 tot] 41)).heap.size w' ap cp (cloL n zs) ∧ Below ((W.alloc (.cells #[.int .i64 n.nodes, .slice a n.arcs.length c] 24)).alloc (.cells #[.slice ar nr cr, .int .i64 tot] 41)).heap.size ((W.alloc (.cells #[.int .i64 n.nodes, .slice a n.arcs.length c] 24)).alloc (.cells #[.slice ar nr cr, .int .i64 tot] 41)) w') := DM.out.mono fun e w' hh => by
      rcases hh with ⟨-, q⟩ | ⟨k1, -⟩
      · exact q
      · exact absurd h0 k1
    have HEND : Hid (∀ (x : Int) (wz : World), chkC n L tot zs = x → Below W.heap.size W wz → PE (.returned (.int .i64 x)) wz) := fun x wz q1 q2 => by
      rw [← HPE.out]
      exact ⟨by rw [q1], q2⟩
    clear DM HPE hcc h0
    generalize chkC n L tot zs = ch at *
    generalize cloL n zs = PL at *
    generalize rowsV n (startT n) zs = R at *
    generalize mostM n zs = pk at *
    obtain ⟨m, hm⟩ : ∃ m, n.arcs.length = m := ⟨_, rfl⟩
    obtain ⟨np, hnp⟩ : ∃ np, PL.length = np := ⟨_, rfl⟩
    have HNP := hiddenN hnp
    rw [hm] at HML hmost DY z0 z1 G0 D0 B0 HL0 HCL ⊢
    rw [hnp] at HPL6 DY
    clear hm hnp
    go_enter Tryz.func17, Tryz.ntmps17
    go_upto_region 1 with fail
    generalize ((W.alloc (.cells #[.int .i64 n.nodes, .slice a m c] 24)).alloc (.cells #[.slice ar nr cr, .int .i64 tot] 41)) = W1 at *
    obtain ⟨nb, hnb⟩ : ∃ q, W.heap.size = q := ⟨_, rfl⟩
    rw [hnb] at G0 D0 B0 HEND z0 z1 ⊢
    have hnb1 : nb + 1 < W1.heap.size := D0.out.lt
    clear hnb
    go_upto_region 4 with (go_at_call 29; (with_reducible refine DY.out.mono ?_); rintro e W2 ⟨am, cm, ap, cp, rfl, q1, q2, q3⟩; have R2 := hiddenN q1; have P2 := hiddenN q2; have B2 := hiddenN q3; clear q1 q2 q3)
    obtain ⟨db, hdb⟩ : ∃ q, W2.heap.size = q := ⟨_, rfl⟩
    have y3 : Hid (Below W2.heap.size W2 (W2.alloc (.cells #[.slice am m cm, .slice ap np cp] 64))) := (Below.refl _ _).alloc (Nat.le_refl _) _
    have X3 := hiddenN (blkA_new 64 W2 #[.slice am m cm, .slice ap np cp])
    have R3 := hiddenN (R2.out.later y3.out)
    have P3 := hiddenN (P2.out.later y3.out)
    have B3 := hiddenN (B2.out.trans (y3.out.mono B2.out.size))
    clear z0 z1 R2 P2 B2 y3 DY
    generalize W2.alloc (.cells #[.slice am m cm, .slice ap np cp] 64) = W3 at *
    rw [hdb] at X3 ⊢
    clear hdb
    have D3 := hiddenN (D0.out.below B3.out)
    have d0 := D3.out.cell (k := 0) rfl
    have d1 := D3.out.cell (k := 1) rfl
    have x0 := X3.out.cell (k := 0) rfl
    have x1 := X3.out.cell (k := 1) rfl
    simp only [List.getElem_toArray, List.getElem_cons_zero, List.getElem_cons_succ] at d0 d1 x0 x1
    have SZ := hiddenN (sizes_anyX (.slice ap np cp) am m cm pk ar nr cr L W3 R3.out.at HML.out (by omega) (HL0.out.below B3.out) HLl.out)
    by_cases hz : szE pk L = 0
    · obtain ⟨t1, t2, t3⟩ := chk_tail (R := R) (tot := tot) hz
      rw [HML.out] at t2
      have T1 : Hid (ch = _) := HCH.out.trans t1
      have T3 := hiddenN t3
      have hnr : nr ≤ 96 := by have := HLl.out; omega
      have HLM := hiddenN t2
      rw [hz] at SZ
      have qz : ((0 : Int) != 0) = false := rfl
      clear hz t1 t2 t3 HCH
      go_upto_region 7 with (go_at_call 39; (with_reducible refine SZ.out.mono ?_); rintro e W4 ⟨rfl, q⟩; have B4 := hiddenN q; clear q)
      have B40 := hiddenN (B3.out.trans (B4.out.mono B3.out.size))
      have D4 := hiddenN (D0.out.below B40.out)
      have X4 := hiddenN (X3.out.below B4.out)
      have P4 := hiddenN (P3.out.later B4.out)
      have L4 := hiddenN (HL0.out.below B40.out)
      have CE := hiddenN (fun U => cells_anyX ar cr nr L U)
      have HW : Hid (∀ x ∈ L, IntKind.i64.wrap (x.1 + x.2) = x.1 + x.2) := fun x hx => by have := T3.out x hx; rw [IntKind.wrap_i64]; omega
      have CE2 : Hid (∀ q os, Calls Tryz.prog 33 #[.slice ar nr cr] (Go.Sort.grow (W4.drewN q) os) fun e w' => e = .returned (.int .i64 (celP L)) ∧ ∃ q' os', w' = Go.Sort.grow ((Go.Sort.grow (W4.drewN q) os).drewN q') os') := fun q os => CE.out _ (L4.out.below (grn_below ⟨q, os, rfl⟩ (Nat.le_refl _))) HLl.out (by omega) HW.out
      have u0 := fun q os => Go.cell_grown D4.out.lt (D4.out.cell (k := 0) rfl) q os
      have u1 := fun q os => Go.cell_grown D4.out.lt (D4.out.cell (k := 1) rfl) q os
      simp only [List.getElem_toArray, List.getElem_cons_zero, List.getElem_cons_succ] at u0 u1
      clear d0 d1 x0 x1 SZ CE B4 D3 X3 P3 R3
      generalize celP L = ce at *
      by_cases htc : tot = ce
      · have qt : (tot != ce) = false := by rw [htc]; simp
        have T2 : Hid (ch = if 1024 < tot then 5 else if (prsV (cloV R) pk.length).any (fun p => shrB (nthX L p.1) (nthX L p.2)) = true then 192 else 0) := by
          have q := T1.out
          rw [if_neg (fun q => q htc)] at q
          exact q
        clear htc T1
        go_quiet_grown (first | (go_at_call 33; (with_reducible exact Calls.grown_of (CE2.out _ _))))
        have b5 := hiddenN (grn_below ⟨nq, osq, rfl⟩ (Nat.le_refl W4.heap.size))
        have B5 := hiddenN (B40.out.trans (b5.out.mono B40.out.size))
        have D5 := hiddenN (D4.out.below b5.out)
        have X5 := hiddenN (X4.out.below b5.out)
        have P5 := hiddenN (P4.out.later b5.out)
        have L5 := hiddenN (L4.out.below b5.out)
        generalize Go.Sort.grow (W4.drewN nq) osq = W5 at *
        have d1 := D5.out.cell (k := 1) rfl
        have d0 := D5.out.cell (k := 0) rfl
        have x1 := X5.out.cell (k := 1) rfl
        simp only [List.getElem_toArray, List.getElem_cons_zero, List.getElem_cons_succ] at d0 d1 x1
        clear u0 u1 CE2 qt B40 D4 X4 P4 L4 b5
        by_cases hgt : 1024 < tot
        · have hgt' : tot > 1024 := hgt
          have T4 : Hid (ch = 5) := by have q := T2.out; rw [if_pos hgt] at q; exact q
          clear hgt
          go_wp2
          exact HEND.out 5 _ T4.out (B0.out.trans (B5.out.mono (by omega)))
        · have hgt' : ¬ tot > 1024 := hgt
          have T4 : Hid (ch = if ((prsV (cloV R) m).drop 0).any (fun p => shrB (nthX L p.1) (nthX L p.2)) = true then 192 else 0) := by have q := T2.out; rw [if_neg hgt, HML.out] at q; rw [List.drop_zero]; exact q
          clear hgt T2
          go_wp2
          clear d0 d1 x1
          go_loopg [40] np (fun gk u wr => ∃ k : Nat, k ≤ np ∧ gk = np - k ∧ u = .int .i64 (k : Int) ∧ (ch = if ((prsV (cloV R) m).drop k).any (fun p => shrB (nthX L p.1) (nthX L p.2)) = true then 192 else 0) ∧ Below W5.heap.size W5 wr)
          case atStart => exact ⟨0, Nat.zero_le _, rfl, rfl, T4.out, Below.refl _ _⟩
          case round =>
            clear T4
            obtain ⟨k, hk, rfl, rfl, hch, hB⟩ := hrel
            have HC := hiddenN hch
            have HB := hiddenN hB
            clear hch hB
            have hpl : (prsV (cloV R) m).length = np := by have e := HNP.out; rw [HCL.out, List.length_map] at e; exact e
            by_cases hlt : k < np
            · have hki : (k : Int) < (np : Int) := by omega
              have hnp6 : np ≤ 1000000 := HPL6.out
              obtain ⟨p, hp⟩ : ∃ p, (prsV (cloV R) m)[k]? = some p := ⟨_, List.getElem?_eq_getElem (by rw [hpl]; exact hlt)⟩
              have hpm := mem_prsV.1 (List.mem_of_getElem? hp)
              have hkP : k < PL.length := by rw [HNP.out]; exact hlt
              have hnx : nthX PL k = prI p := nthX_at (by rw [HCL.out, List.getElem?_map, hp]; rfl)
              rcases P5.out.at.below HB.out with e1 | ⟨qb, qo, hap, hc⟩
              · rw [e1] at hkP; exact absurd hkP (Nat.not_lt_zero _)
              obtain ⟨c0, c1⟩ := hc k hkP
              rw [hnx] at c0 c1
              obtain ⟨p1, p2⟩ := p
              simp only [prI] at c0 c1
              rcases L5.out.below HB.out with e1 | ⟨lb, lo, har, hcl⟩
              · have := HLl.out; have := HLM.out; rw [e1] at this; simp at this; omega
              have h1m : p1 < L.length := by have := HLM.out; have := hpm.1; have := hpm.2.1; simp only at *; omega
              have h2m : p2 < L.length := by have := HLM.out; have := hpm.2.1; simp only at *; omega
              have HC2 := HC.out
              rw [any_cut hp] at HC2
              have w1 := T3.out _ (List.getElem_mem h1m)
              have w2 := T3.out _ (List.getElem_mem h2m)
              rw [← nthX_at (List.getElem?_eq_getElem h1m)] at w1
              rw [← nthX_at (List.getElem?_eq_getElem h2m)] at w2
              obtain ⟨a0, a1⟩ := hcl p1 h1m
              obtain ⟨b0, b1⟩ := hcl p2 h2m
              simp only at HC2
              obtain ⟨r1, hr1⟩ : ∃ r, nthX L p1 = r := ⟨_, rfl⟩
              obtain ⟨r2, hr2⟩ : ∃ r, nthX L p2 = r := ⟨_, rfl⟩
              rw [hr1] at a0 a1 w1 HC2
              rw [hr2] at b0 b1 w2 HC2
              obtain ⟨s1, s2⟩ := r1
              obtain ⟨s3, s4⟩ := r2
              simp only at a0 a1 b0 b1 w1 w2
              have HC3 := hiddenN HC2
              have hi1 : (p1 : Int) < (nr : Int) := by have := HLl.out; omega
              have hi2 : (p2 : Int) < (nr : Int) := by have := HLl.out; omega
              have SH : Hid (∀ U, Calls Tryz.prog 40 #[.agg #[.int .i64 s1, .int .i64 s2], .agg #[.int .i64 s3, .int .i64 s4]] U fun e w' => e = .returned (.bool (shrI (s1, s2) (s3, s4))) ∧ ∃ q os, w' = Go.Sort.grow (U.drewN q) os) := fun U => share_anyX s1 s2 s3 s4 (by rw [IntKind.wrap_i64]; omega) (by rw [IntKind.wrap_i64]; omega) U
              have HSS : Hid (shrB (s1, s2) (s3, s4) = shrI (s1, s2) (s3, s4)) := by
                show _ = _
                rw [Bool.eq_iff_iff, shrB_iff, shrI_iff]
              generalize shrI (s1, s2) (s3, s4) = sh at *
              subst hap
              subst har
              have HBw := hiddenN ((Below.refl wr.heap.size wr).alloc (Nat.le_refl _) (.cells #[.int .i64 (p1 : Int), .int .i64 (p2 : Int)] 34))
              have GP := hiddenN (blkA_new 34 wr #[.int .i64 (p1 : Int), .int .i64 (p2 : Int)])
              have HB6 := hiddenN (HB.out.trans (HBw.out.mono HB.out.size))
              have D6 := hiddenN (D5.out.below HB6.out)
              have a0' := cellN_later HBw.out a0
              have a1' := cellN_later HBw.out a1
              have b0' := cellN_later HBw.out b0
              have b1' := cellN_later HBw.out b1
              clear hc hcl hkP hnx hpl hp hpm HC2 HC w1 w2 hr1 hr2 h1m h2m a0 a1 b0 b1
              go_upto_region 14 with fail
              generalize wr.alloc (.cells #[.int .i64 (p1 : Int), .int .i64 (p2 : Int)] 34) = W6 at *
              have v0 := fun q os => Go.cell_grown GP.out.lt (GP.out.cell (k := 0) rfl) q os
              have v1 := fun q os => Go.cell_grown GP.out.lt (GP.out.cell (k := 1) rfl) q os
              have u0 := fun q os => Go.cell_grown D6.out.lt (D6.out.cell (k := 0) rfl) q os
              simp only [List.getElem_toArray, List.getElem_cons_zero, List.getElem_cons_succ] at v0 v1
              simp only [List.getElem_toArray, List.getElem_cons_zero] at u0
              have k0 := fun q os => Go.cell_grown (w := W6) (World.block_lt_of_cell? _ _ a0') a0' q os
              have k1 := fun q os => Go.cell_grown (w := W6) (World.block_lt_of_cell? _ _ a1') a1' q os
              have k2 := fun q os => Go.cell_grown (w := W6) (World.block_lt_of_cell? _ _ b0') b0' q os
              have k3 := fun q os => Go.cell_grown (w := W6) (World.block_lt_of_cell? _ _ b1') b1' q os
              clear a0' a1' b0' b1' c0 c1
              go_quiet_grown (first | (go_at_call 40; (with_reducible exact Calls.grown_of (SH.out _))))
              have b7 := hiddenN (grn_below ⟨nq, osq, rfl⟩ (Nat.le_refl W6.heap.size))
              have HB7 := hiddenN (HB6.out.trans (b7.out.mono HB6.out.size))
              generalize Go.Sort.grow (W6.drewN nq) osq = W7 at *
              clear v0 v1 u0 k0 k1 k2 k3
              cases sh with
              | true =>
                have T5 : Hid (ch = 192) := by have q := HC3.out; rw [HSS.out, Bool.true_or, if_pos rfl] at q; exact q
                go_wp2
                exact HEND.out 192 _ T5.out (B0.out.trans ((B5.out.trans (HB7.out.mono B5.out.size)).mono (by omega)))
              | false =>
                have T5 : Hid (ch = if ((prsV (cloV R) m).drop (k + 1)).any (fun p => shrB (nthX L p.1) (nthX L p.2)) = true then 192 else 0) := by have q := HC3.out; rw [HSS.out, Bool.false_or] at q; exact q
                go_wp2
                go_roundg (np - (k + 1))
                case measure => omega
                case rel => exact ⟨k + 1, by omega, rfl, by go_num, T5.out, HB7.out⟩
            · have hki : ¬ (k : Int) < (np : Int) := by omega
              have T5 : Hid (ch = 0) := by
                have q := HC.out
                rw [List.drop_eq_nil_of_le (by rw [hpl]; omega)] at q
                exact q
              clear hpl
              go_wp2
              exact HEND.out 0 _ T5.out (B0.out.trans ((B5.out.trans (HB.out.mono B5.out.size)).mono (by omega)))
      · have qt : (tot != ce) = true := by simpa using htc
        have T2 : Hid (ch = 191) := by have q := T1.out; rw [if_pos htc] at q; exact q
        clear htc T1
        go_quiet_grown (first | (go_at_call 33; (with_reducible exact Calls.grown_of (CE2.out _ _))))
        have b5 := hiddenN (grn_below ⟨nq, osq, rfl⟩ (Nat.le_refl W4.heap.size))
        have B5 := hiddenN (B40.out.trans (b5.out.mono B40.out.size))
        go_wp2
        exact HEND.out 191 _ T2.out (B0.out.trans (B5.out.mono (by omega)))
    · have qz : (szE pk L != 0) = true := by simpa using hz
      have T1 : Hid (ch = szE pk L) := HCH.out.trans (chk_sizes hz)
      clear hz HCH
      generalize szE pk L = sz at *
      go_wp2_with (go_at_call 39; (with_reducible refine SZ.out.mono ?_); rintro e W4 ⟨rfl, q⟩; have B4 := hiddenN q; clear q)
      exact HEND.out sz _ T1.out (B0.out.trans ((B3.out.trans (B4.out.mono B3.out.size)).mono (by omega)))
  · have HEND : Hid (∀ (wz : World), Below W.heap.size W wz → PE (.returned (.int .i64 (dmC n zs))) wz) := fun wz q2 => by
      rw [← HPE.out]
      exact ⟨by unfold chkC; rw [if_neg h0], q2⟩
    have DN : Hid (Calls Tryz.prog 29 #[.agg #[.int .i64 n.nodes, .slice a n.arcs.length c], .slice al zs.length cl] ((W.alloc (.cells #[.int .i64 n.nodes, .slice a n.arcs.length c] 24)).alloc (.cells #[.slice ar nr cr, .int .i64 tot] 41)) fun e w' => e = .returned (.tuple #[.agg #[.slice none 0 0, .slice none 0 0], .int .i64 (dmC n zs)]) ∧ Below ((W.alloc (.cells #[.int .i64 n.nodes, .slice a n.arcs.length c] 24)).alloc (.cells #[.slice ar nr cr, .int .i64 tot] 41)).heap.size ((W.alloc (.cells #[.int .i64 n.nodes, .slice a n.arcs.length c] 24)).alloc (.cells #[.slice ar nr cr, .int .i64 tot] 41)) w') := DM.out.mono fun e w' hh => by
      rcases hh with ⟨k1, -⟩ | ⟨-, e1, q⟩
      · exact absurd k1 h0
      · exact ⟨e1, q⟩
    have qc : (dmC n zs != 0) = true := by simpa using h0
    clear DM HPE h0
    generalize dmC n zs = cd at *
    go_enter Tryz.func17, Tryz.ntmps17
    go_upto_region 1 with fail
    generalize ((W.alloc (.cells #[.int .i64 n.nodes, .slice a n.arcs.length c] 24)).alloc (.cells #[.slice ar nr cr, .int .i64 tot] 41)) = W1 at *
    have hnb1 : W.heap.size + 1 < W1.heap.size := D0.out.lt
    go_upto_region 3 with (go_at_call 29; (with_reducible refine DN.out.mono ?_); rintro e W2 ⟨rfl, q⟩; have B2 := hiddenN q; clear q)
    have y3 : Hid (Below W2.heap.size W2 (W2.alloc (.cells #[.slice none 0 0, .slice none 0 0] 64))) := (Below.refl _ _).alloc (Nat.le_refl _) _
    have B3 := hiddenN (B2.out.trans (y3.out.mono B2.out.size))
    go_wp2
    exact HEND.out _ (B0.out.trans (B3.out.mono (by omega)))
end Go.Proofs.YtimioiaoefhabaaGreat

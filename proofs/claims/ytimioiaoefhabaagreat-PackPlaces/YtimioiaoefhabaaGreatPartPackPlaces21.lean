/- Texts of one chain, laid one behind the other. -/
import Derived.Test.YtimioiaoefhabaaGreatPartPackPlaces20
import Derived.Shelf.SlSortCmp.QuietGrown
import Derived.Shelf.GgSortFunc.RowK
namespace Go.Proofs.YtimioiaoefhabaaGreat
open Go.ChangeShapes Go.WideShapes Go.ChangeAt Go.RowKit
theorem own_holds {α : Type} [Inhabited α] {enc : α → Value} {B e size n c g : Nat} {w : World} {d : Array α} (hd : d.size = n * size) (h : w.ownsRow B e size (.slice (some ⟨g, 0, none⟩) n c) n (d.toList.map enc)) : Go.Sort.Holds enc w g 0 d := fun j hj => by
  rw [Nat.zero_add]
  refine ⟨?_, h.frozenAt j⟩
  rw [h.cellAt j (by omega), List.getElem?_map, Array.getElem?_toList, Array.getElem?_eq_getElem hj, getElem!_pos d j hj]
  rfl
theorem own_put {α : Type} [Inhabited α] {enc : α → Value} {B e size n c g : Nat} {w : World} {xs : List Value} {d : Array α} (hd : d.size = n * size) (h : w.ownsRow B e size (.slice (some ⟨g, 0, none⟩) n c) n xs) : (Go.Sort.putRow enc w g 0 d).ownsRow B e size (.slice (some ⟨g, 0, none⟩) n c) n (d.toList.map enc) := by
  refine ⟨by rw [List.length_map, Array.length_toList, hd], ?_⟩
  rcases h.2 with ⟨h', _⟩ | ⟨g', cap', cur, h', hb, hg, hnc, hcm, hcs, htake⟩
  · simp at h'
  · simp only [Value.slice.injEq, Option.some.injEq, Addr.mk.injEq, and_true, true_and] at h'
    obtain ⟨rfl, rfl⟩ := h'
    refine .inr ⟨g, c, Go.Sort.putCells enc 0 d cur, rfl, hb, ?_, hnc, hcm, by rw [← hcs]; simp [Go.Sort.putCells], ?_⟩
    · unfold Go.Sort.putRow Go.Sort.mapBlock
      simp only [Array.getElem?_modify, if_true, hg]
      rfl
    · have hle : n * size ≤ cur.size := by rw [hcs]; exact Nat.mul_le_mul_right _ hnc
      refine List.ext_getElem? fun j => ?_
      rw [List.getElem?_take]
      by_cases hj : j < n * size
      · have hjd : j < d.size := by rw [hd]; exact hj
        have e1 : (Go.Sort.putCells enc 0 d cur)[j]? = some (enc d[j]!) := by
          unfold Go.Sort.putCells
          rw [Array.getElem?_mapIdx, Array.getElem?_eq_getElem (by omega)]
          simp only [Option.map_some]
          rw [if_pos ⟨Nat.zero_le _, by omega⟩, Nat.sub_zero]
        rw [if_pos hj, Array.getElem?_toList, e1, List.getElem?_map, Array.getElem?_toList, Array.getElem?_eq_getElem hjd, getElem!_pos d j hjd]
        rfl
      · rw [if_neg hj, List.getElem?_eq_none (by rw [List.length_map, Array.length_toList, hd]; omega)]
theorem put_below {α : Type} [Inhabited α] {enc : α → Value} {B g off : Nat} {w : World} {d : Array α} (hB : B ≤ g) : Below B w (Go.Sort.putRow enc w g off d) := by
  refine ⟨rfl, rfl, rfl, by rw [Go.Sort.size_putRow]; exact Nat.le_refl _, fun k hk => ?_⟩
  unfold Go.Sort.putRow Go.Sort.mapBlock
  simp only [Array.getElem?_modify]
  rw [if_neg (by omega)]
theorem ahead_below {B : Nat} {w : World} (n : Nat) : Below B w (Go.Sort.ahead w n) := ⟨rfl, rfl, rfl, Nat.le_refl _, fun _ _ => rfl⟩
theorem grow_below {B : Nat} {w : World} (os : Array Obj) (hB : B ≤ w.heap.size) : Below B w (Go.Sort.grow w os) := by
  refine ⟨rfl, rfl, rfl, by rw [Go.Sort.size_grow]; omega, fun k hk => ?_⟩
  unfold Go.Sort.grow
  exact Array.getElem?_append_left (by omega)
theorem own_later {B e size n : Nat} {v : Value} {xs : List Value} {w w' : World} (h : w.ownsRow B e size v n xs) (hb : Below w.heap.size w w') : w'.ownsRow B e size v n xs := by
  refine ⟨h.1, ?_⟩
  rcases h.2 with h2 | ⟨g, cap, cur, hv, hg, hh, r⟩
  · exact .inl h2
  · refine .inr ⟨g, cap, cur, hv, hg, ?_, r⟩
    rw [hb.block g (Array.getElem?_eq_some_iff.1 hh).1]
    exact hh
theorem own_ahead {B e size n : Nat} {v : Value} {xs : List Value} {w : World} (h : w.ownsRow B e size v n xs) (m : Nat) : (Go.Sort.ahead w m).ownsRow B e size v n xs := own_later h (ahead_below m)
/-- A row that a sort has passed through. -/
theorem own_sorted {α : Type} [Inhabited α] {enc : α → Value} {B e size n c g : Nat} {w : World} {xs : List Value} {d : Array α} (hd : d.size = n * size) (h : w.ownsRow B e size (.slice (some ⟨g, 0, none⟩) n c) n xs) (hB : B ≤ w.heap.size) (m : Nat) (os : Array Obj) :
    (Go.Sort.grow (Go.Sort.putRow enc (Go.Sort.ahead w m) g 0 d) os).ownsRow B e size (.slice (some ⟨g, 0, none⟩) n c) n (d.toList.map enc) ∧ Below B w (Go.Sort.grow (Go.Sort.putRow enc (Go.Sort.ahead w m) g 0 d) os) := by
  have hg : B ≤ g ∧ g < w.heap.size := h.lt g rfl
  have h1 := own_put (enc := enc) hd (own_ahead h m)
  have hs : (Go.Sort.putRow enc (Go.Sort.ahead w m) g 0 d).heap.size = w.heap.size := Go.Sort.size_putRow ..
  exact ⟨own_later h1 (grow_below os (Nat.le_refl _)), (ahead_below m).trans ((put_below hg.1).trans (grow_below os (by rw [hs]; exact hB)))⟩
theorem perm_of {α : Type} [Inhabited α] {d d' : Array α} (h : Go.Sort.PermIn 0 d.size d d') : d'.toList.Perm d.toList := by
  obtain ⟨h1, -, h3⟩ := h
  have e1 : d'.extract 0 d.size = d' := by rw [← h1]; exact Array.extract_size
  have e2 : d.extract 0 d.size = d := Array.extract_size
  rw [e1, e2] at h3
  exact h3
theorem sorted_of {α : Type} [Inhabited α] {lt : α → α → Bool} {d : Array α} {n : Nat} (hn : d.size = n) (h : Go.Sort.SortedIn lt 0 n d) : d.toList.Pairwise fun x y => lt y x = false := by
  rw [List.pairwise_iff_getElem]
  intro i j hi hj hij
  have q := h i j (Nat.zero_le _) hij (by rw [← hn]; simpa using hj)
  rw [getElem!_pos d i (by simpa using hi), getElem!_pos d j (by simpa using hj)] at q
  simpa using q
theorem flatK_gn : ∀ (L : List (Int × Int)), (Go.Sort.flatK rnV 2 L.toArray).toList = flatGn L := by
  intro L
  refine List.ext_getElem? fun t => ?_
  by_cases ht : t < L.length * 2
  · have hk : t / 2 < L.length := by omega
    have e1 : t = t / 2 * 2 + t % 2 := by omega
    have q := flatGn_get (L := L) hk (Nat.mod_lt t (by decide))
    rw [← e1] at q
    rw [q, Array.getElem?_toList]
    have hs : t < (Go.Sort.flatK rnV 2 L.toArray).size := by rw [Go.Sort.size_flatK]; simpa using ht
    rw [Array.getElem?_eq_getElem hs]
    have g := Go.Sort.get_flatK rnV 2 L.toArray t (by simpa using ht)
    rw [getElem!_pos _ t hs] at g
    rw [g]
    have e2 : (L.toArray)[t / 2]! = nthX L (t / 2) := by
      rw [getElem!_pos L.toArray (t / 2) (by simpa using hk)]
      unfold nthX
      rw [List.getElem?_eq_getElem hk]
      simp
    rw [e2]
    have hm : t % 2 < 2 := Nat.mod_lt t (by decide)
    generalize t % 2 = r at hm
    match r, hm with
    | 0, _ => rfl
    | 1, _ => rfl
  · rw [List.getElem?_eq_none (by rw [Array.length_toList, Go.Sort.size_flatK]; simp; omega), List.getElem?_eq_none (by rw [flatGn_len]; omega)]
theorem grn_below {B : Nat} {W w' : World} (h : ∃ q os, w' = Go.Sort.grow (W.drewN q) os) (hB : B ≤ W.heap.size) : Below B W w' := by
  obtain ⟨q, os, rfl⟩ := h
  exact (drewB (Below.refl B W) q).trans (grow_below os hB)
set_option maxRecDepth 100000 in
theorem end_anyX (b s : Int) (h : IntKind.i64.wrap (b + s) = b + s) (W : World) : Calls Tryz.prog 59 #[.agg #[.int .i64 b, .int .i64 s]] W fun e w' => e = .returned (.int .i64 (b + s)) ∧ ∃ q os, w' = Go.Sort.grow (W.drewN q) os := by
  go_enter Tryz.func59, Tryz.ntmps59
  go_wp2
  go_ret
  exact ⟨rfl, 0, _, by rw [Go.Sort.alloc_eq_grow]; rfl⟩
theorem max_ifX (x y : Int) : (if x < y then y else x) = max x y := by
  split <;> omega
theorem min_ifV (x y : Int) : (if x < y then x else y) = min x y := by
  split <;> omega
set_option maxRecDepth 100000 in
set_option maxHeartbeats 4000000 in
theorem share_anyX (b s b2 s2 : Int) (h : IntKind.i64.wrap (b + s) = b + s) (h2 : IntKind.i64.wrap (b2 + s2) = b2 + s2) (W : World) : Calls Tryz.prog 40 #[.agg #[.int .i64 b, .int .i64 s], .agg #[.int .i64 b2, .int .i64 s2]] W fun e w' => e = .returned (.bool (shrI (b, s) (b2, s2))) ∧ ∃ q os, w' = Go.Sort.grow (W.drewN q) os := by
  have mixed : Tryz.prog.follows .mixedOrders = true := by kernel_rfl
  have E1 : Hid (∀ U, Calls Tryz.prog 59 #[.agg #[.int .i64 b, .int .i64 s]] U fun e w' => e = .returned (.int .i64 (b + s)) ∧ ∃ q os, w' = Go.Sort.grow (U.drewN q) os) := fun U => end_anyX b s h U
  have E2 : Hid (∀ U, Calls Tryz.prog 59 #[.agg #[.int .i64 b2, .int .i64 s2]] U fun e w' => e = .returned (.int .i64 (b2 + s2)) ∧ ∃ q os, w' = Go.Sort.grow (U.drewN q) os) := fun U => end_anyX b2 s2 h2 U
  have ER : Hid (shrI (b, s) (b2, s2) = decide (max b b2 < min (b + s) (b2 + s2))) := rfl
  generalize shrI (b, s) (b2, s2) = r at *
  generalize b + s = x at *
  generalize b2 + s2 = y at *
  have G1 := hiddenN (blkA_new 47 W #[.int .i64 b, .int .i64 s])
  have G2 := hiddenN (blkA_new 47 (W.alloc (.cells #[.int .i64 b, .int .i64 s] 47)) #[.int .i64 b2, .int .i64 s2])
  have G1' := hiddenN (G1.out.below ((Below.refl _ _).alloc (Nat.le_refl _) (.cells #[.int .i64 b2, .int .i64 s2] 47)))
  have HW : Hid ((W.alloc (.cells #[.int .i64 b, .int .i64 s] 47)).alloc (.cells #[.int .i64 b2, .int .i64 s2] 47) = Go.Sort.grow W #[.cells #[.int .i64 b, .int .i64 s] 47, .cells #[.int .i64 b2, .int .i64 s2] 47]) := by
    show _ = _
    rw [Go.Sort.alloc_eq_grow, Go.Sort.alloc_eq_grow, Go.Sort.grow_grow]; rfl
  clear h h2
  go_enter Tryz.func40, Tryz.ntmps40
  go_upto_region 1 with fail
  generalize (W.alloc (.cells #[.int .i64 b, .int .i64 s] 47)).alloc (.cells #[.int .i64 b2, .int .i64 s2] 47) = W2 at *
  have hs2 : (W.alloc (.cells #[.int .i64 b, .int .i64 s] 47)).heap.size = W.heap.size + 1 := World.size_alloc ..
  rw [hs2] at G2
  have z0 := fun n os => Go.cell_grown G1'.out.lt (G1'.out.cell (k := 0) rfl) n os
  have z1 := fun n os => Go.cell_grown G1'.out.lt (G1'.out.cell (k := 1) rfl) n os
  have y0 := fun n os => Go.cell_grown G2.out.lt (G2.out.cell (k := 0) rfl) n os
  have y1 := fun n os => Go.cell_grown G2.out.lt (G2.out.cell (k := 1) rfl) n os
  simp only [List.getElem_toArray, List.getElem_cons_zero, List.getElem_cons_succ] at z0 z1 y0 y1
  clear hs2 G1 G2 G1'
  go_quiet_grown (first | (go_at_call 59; (with_reducible exact Calls.grown_of (E1.out _))) | (go_at_call 59; (with_reducible exact Calls.grown_of (E2.out _))))
  go_wp2
  go_ret
  refine ⟨?_, ?_⟩
  · rw [ER.out, ← max_ifX, ← min_ifV]; rfl
  · rw [HW.out]
    exact ⟨nq, _, by rw [← Go.Sort.grow_grow]; rfl⟩
def cmpX (x y : Int) : Int := if x < y then -1 else if y < x then 1 else 0
theorem cmpX_lt {x y : Int} : cmpX x y < 0 ↔ x < y := by
  unfold cmpX
  split
  · rename_i h; exact ⟨fun _ => h, fun _ => by decide⟩
  · rename_i h
    split
    · exact ⟨fun q => absurd q (by decide), fun q => absurd q h⟩
    · exact ⟨fun q => absurd q (by decide), fun q => absurd q h⟩
theorem cmpX_zero {x y : Int} : cmpX x y = 0 ↔ x = y := by
  unfold cmpX
  split
  · exact ⟨fun q => absurd q (by decide), fun q => by omega⟩
  · split
    · exact ⟨fun q => absurd q (by decide), fun q => by omega⟩
    · exact ⟨fun _ => by omega, fun _ => rfl⟩
set_option maxRecDepth 100000 in
theorem nan_anyX (x : Int) (W : World) : Calls Tryz.prog 78 #[.int .i64 x] W fun e w' => e = .returned (.bool false) ∧ w' = W := by
  have q : (x != x) = false := by simp
  go_enter Tryz.func78, Tryz.ntmps78
  go_wp2
  go_ret
  exact ⟨rfl, rfl⟩
set_option maxRecDepth 100000 in
set_option maxHeartbeats 1000000 in
theorem compare_anyX (x y : Int) (W : World) : Calls Tryz.prog 56 #[.int .i64 x, .int .i64 y] W fun e w' => e = .returned (.int .i64 (cmpX x y)) ∧ w' = W := by
  have N1 := nan_anyX x
  have N2 := nan_anyX y
  by_cases h1 : x < y
  · have e : cmpX x y = -1 := if_pos h1
    rw [e]
    go_enter Tryz.func56, Tryz.ntmps56
    go_wp2_with (first | (go_at_call 78; (with_reducible refine (N1 _).mono ?_); rintro e w' ⟨rfl, rfl⟩) | (go_at_call 78; (with_reducible refine (N2 _).mono ?_); rintro e w' ⟨rfl, rfl⟩))
    go_ret
    exact ⟨rfl, rfl⟩
  · by_cases h2 : y < x
    · have e : cmpX x y = 1 := by unfold cmpX; rw [if_neg h1, if_pos h2]
      rw [e]
      have h3 : x > y := h2
      go_enter Tryz.func56, Tryz.ntmps56
      go_wp2_with (first | (go_at_call 78; (with_reducible refine (N1 _).mono ?_); rintro e w' ⟨rfl, rfl⟩) | (go_at_call 78; (with_reducible refine (N2 _).mono ?_); rintro e w' ⟨rfl, rfl⟩))
      go_ret
      exact ⟨rfl, rfl⟩
    · have e : cmpX x y = 0 := by unfold cmpX; rw [if_neg h1, if_neg h2]
      rw [e]
      have h3 : ¬ x > y := h2
      go_enter Tryz.func56, Tryz.ntmps56
      go_wp2_with (first | (go_at_call 78; (with_reducible refine (N1 _).mono ?_); rintro e w' ⟨rfl, rfl⟩) | (go_at_call 78; (with_reducible refine (N2 _).mono ?_); rintro e w' ⟨rfl, rfl⟩))
      go_ret
      exact ⟨rfl, rfl⟩
def orX (x y : Int) : Int := if x = 0 then y else x
set_option maxRecDepth 100000 in
set_option maxHeartbeats 1000000 in
theorem or_anyX (g : Nat) (x y : Int) (W : World) (h0 : W.cell? ⟨g, 0, none⟩ = some (.int .i64 x)) (h1 : W.cell? ⟨g, 1, none⟩ = some (.int .i64 y)) : Calls Tryz.prog 55 #[.slice (some ⟨g, 0, none⟩) 2 2] W fun e w' => e = .returned (.int .i64 (orX x y)) ∧ w' = W := by
  obtain ⟨PE, hPE⟩ : ∃ R : Ending → World → Prop, (fun e w' => e = .returned (.int .i64 (orX x y)) ∧ w' = W) = R := ⟨_, rfl⟩
  rw [hPE]
  have HPE := hiddenN hPE
  have H0 := hiddenN h0
  have H1 := hiddenN h1
  clear hPE h0 h1
  go_enter Tryz.func55, Tryz.ntmps55
  go_wp2
  go_loopg [8] 2 (fun gk u wr => ∃ k : Nat, k ≤ 2 ∧ gk = 2 - k ∧ u = .int .i64 (k : Int) ∧ wr = W ∧ (0 < k → x = 0) ∧ (1 < k → y = 0))
  case atStart => exact ⟨0, Nat.zero_le _, rfl, rfl, rfl, (fun h => absurd h (Nat.lt_irrefl _)), (fun h => absurd h (by omega))⟩
  case round =>
    obtain ⟨k, hk, rfl, rfl, rfl, q0, q1⟩ := hrel
    match k, hk with
    | 0, _ =>
      have c0 := H0.out
      by_cases e : x = 0
      · have qe : (x != 0) = false := by simpa using e
        go_wp2
        go_roundg 1
        case measure => omega
        case rel => exact ⟨1, by omega, rfl, by go_num, rfl, fun _ => e, (fun h => absurd h (by omega))⟩
      · have qe : (x != 0) = true := by simpa using e
        have eo : orX x y = x := if_neg e
        go_wp2
        rw [← HPE.out]
        exact ⟨by rw [eo]; rfl, rfl⟩
    | 1, _ =>
      have c0 := H1.out
      have e0 := q0 (by decide)
      have eo : orX x y = y := if_pos e0
      clear e0
      by_cases e : y = 0
      · have qe : (y != 0) = false := by simpa using e
        go_wp2
        go_roundg 0
        case measure => omega
        case rel => exact ⟨2, by omega, rfl, by go_num, rfl, fun _ => q0 (by decide), fun _ => e⟩
      · have qe : (y != 0) = true := by simpa using e
        go_wp2
        rw [← HPE.out]
        exact ⟨by rw [eo]; rfl, rfl⟩
    | 2, _ =>
      have e0 := q0 (by decide)
      have e1 := q1 (by decide)
      have eo : orX x y = 0 := by unfold orX; rw [if_pos e0, e1]
      clear e0 e1 q0 q1
      go_wp2
      rw [← HPE.out]
      exact ⟨by rw [eo]; rfl, rfl⟩
set_option maxRecDepth 100000 in
set_option maxHeartbeats 1000000 in
theorem lowest1_anyX (b s b2 s2 : Int) (W : World) : Calls Tryz.prog 58 #[.agg #[.int .i64 b, .int .i64 s], .agg #[.int .i64 b2, .int .i64 s2]] W fun e w' => e = .returned (.int .i64 (cmpX b b2)) ∧ ∃ q os, w' = Go.Sort.grow (W.drewN q) os := by
  have C1 := compare_anyX b b2
  generalize cmpX b b2 = r at *
  go_enter Tryz.func58, Tryz.ntmps58
  go_wp2_with (go_at_call 56; (with_reducible refine (C1 _).mono ?_); rintro e w' ⟨rfl, rfl⟩)
  go_ret
  exact ⟨rfl, 0, _, by rw [Go.Sort.alloc_eq_grow, Go.Sort.alloc_eq_grow, Go.Sort.grow_grow]; rfl⟩
end Go.Proofs.YtimioiaoefhabaaGreat

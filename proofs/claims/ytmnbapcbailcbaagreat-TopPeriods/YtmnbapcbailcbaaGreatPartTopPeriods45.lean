/- Texts of one chain, laid one behind the other. -/
import Derived.Test.YtmnbapcbailcbaaGreatPartTopPeriods15
import Derived.Test.YtmnbapcbailcbaaGreatPartTopPeriods39
import Derived.Test.YtmnbapcbailcbaaGreatPartTopPeriods44
import Derived.WalkMore
import Derived.Test.YtmnbapcbailcbaaGreatPartTopPeriods12
namespace Go.Proofs.YtmnbapcbailcbaaGreat
open Go.ChangeShapes Go.WideShapes Go.ChangeAt Go.RowKit
/-! ### plain -/
def wnU (O : List Int) : List Int → List Int
  | [] => O
  | v :: vs => wnU (if v ∈ O then O else O ++ [v]) vs
def fallU : Nat → List Int
  | 0 => []
  | k + 1 => (k : Int) :: fallU k
theorem fallU_mem : ∀ {k : Nat} {v : Int}, v ∈ fallU k ↔ 0 ≤ v ∧ v < (k : Int)
  | 0, v => by simp [fallU]
  | k + 1, v => by
    unfold fallU
    rw [List.mem_cons, fallU_mem]
    push_cast
    omega
theorem wnU_mem : ∀ {vs O : List Int} {z : Int}, z ∈ wnU O vs ↔ z ∈ O ∨ z ∈ vs
  | [], O, z => by rw [wnU]; simp
  | v :: vs, O, z => by
    rw [wnU, wnU_mem, List.mem_cons]
    by_cases h : v ∈ O
    · rw [if_pos h]
      constructor
      · rintro (h1 | h1)
        · exact .inl h1
        · exact .inr (.inr h1)
      · rintro (h1 | h1 | h1)
        · exact .inl h1
        · exact .inl (h1 ▸ h)
        · exact .inr h1
    · rw [if_neg h, List.mem_append, List.mem_singleton, or_assoc]
theorem wnU_nodup : ∀ {vs O : List Int}, O.Nodup → (wnU O vs).Nodup
  | [], O, h => by rw [wnU]; exact h
  | v :: vs, O, h => by
    rw [wnU]
    refine wnU_nodup ?_
    by_cases hv : v ∈ O
    · rw [if_pos hv]; exact h
    · rw [if_neg hv, List.nodup_append]
      exact ⟨h, by simp, fun a ha b hb e => hv (by rw [List.mem_singleton] at hb; rw [← hb, ← e]; exact ha)⟩
theorem wnU_snoc : ∀ {vs : List Int} {v : Int} {O : List Int}, wnU O (vs ++ [v]) = if v ∈ wnU O vs then wnU O vs else wnU O vs ++ [v]
  | [], v, O => rfl
  | u :: vs, v, O => by
    show wnU _ (vs ++ [v]) = _
    rw [wnU_snoc]
    rfl
theorem nodup_few {O : List Int} {N : Nat} (h : O.Nodup) (hi : ∀ z ∈ O, 0 ≤ z ∧ z < (N : Int)) : O.length ≤ N := by
  have := few_below N (O.map Int.toNat) (by
    rw [List.nodup_iff_pairwise_ne, List.pairwise_map]
    refine (List.nodup_iff_pairwise_ne.1 h).imp_of_mem fun {x y} hx hy hne e => hne ?_
    have := hi x hx; have := hi y hy
    omega) (fun x hx => by
    obtain ⟨y, hy, rfl⟩ := List.mem_map.1 hx
    have := hi y hy
    omega)
  rwa [List.length_map] at this
def ranU (N : Nat) (P : List Int) : List Int := wnU (wnU [] P) (fallU N)
/-! ### the program's -/
set_option maxRecDepth 100000 in
set_option maxHeartbeats 1000000 in
theorem indexU_any (a : Option Addr) (zs : List Int) (len cap : Nat) (v : Int) (w : World) (hl : zs.length = len) (hm : len ≤ 4611686018427387904) (h : At w a zs) :
    Calls Tryz.prog 123 #[.slice a len cap, .int .i64 v] w fun e w' => ∃ x : Int, e = .returned (.int .i64 x) ∧ (0 ≤ x ↔ v ∈ zs) ∧ w = w' := by
  rcases h with h | ⟨b, off, rfl, hc⟩
  · subst h
    subst hl
    go_enter Tryz.func123, Tryz.ntmps123
    go_wp2
    go_loop [8] (fun i => i = .int .i64 0) (fun _ => 0)
    case atStart => exact rfl
    case round =>
      subst hrel
      go_wp2
      go_ret
      exact ⟨-1, rfl, by simp, rfl⟩
  · have HC := hiddenN hc
    have HL := hiddenN hl
    clear hc hl
    go_enter Tryz.func123, Tryz.ntmps123
    go_wp2
    go_loop [8] (fun i => ∃ k : Nat, k ≤ len ∧ i = .int .i64 (k : Int) ∧ ∀ j, j < k → nth zs j ≠ v) (fun i => match i with | .int _ k => len - k.toNat | _ => 0)
    case atStart => exact ⟨0, Nat.zero_le _, rfl, fun j hj => absurd hj (Nat.not_lt_zero _)⟩
    case round =>
      obtain ⟨k, hk, rfl, hs⟩ := hrel
      have HS := hiddenN hs
      clear hs
      by_cases hlt : k < len
      · have c0 := HC.out k (by rw [HL.out]; exact hlt)
        have HM : Hid (nth zs k ∈ zs) := by
          show _ ∈ _
          unfold nth
          rw [List.getD_eq_getElem?_getD, List.getElem?_eq_getElem (by rw [HL.out]; exact hlt)]
          exact List.getElem_mem _
        by_cases e : v = nth zs k
        · have HM2 : Hid (v ∈ zs) := by show _ ∈ _; rw [e]; exact HM.out
          rw [← e] at c0
          go_wp2
          go_ret
          exact ⟨(k : Int), rfl, ⟨fun _ => HM.out, fun _ => by omega⟩, rfl⟩
        · have HN : Hid (∀ j, j < k + 1 → nth zs j ≠ v) := fun j hj => by
            rcases Nat.lt_succ_iff_lt_or_eq.1 hj with h1 | rfl
            · exact HS.out j h1
            · exact fun h => e h.symm
          have hb : (v == nth zs k) = false := by simpa using e
          generalize nth zs k = z at *
          clear e
          go_wp2
          go_round
          case measure => go_num
          case rel => exact ⟨k + 1, by omega, by go_num, HN.out⟩
      · have ek : k = len := by omega
        subst ek
        have HF : Hid (v ∉ zs) := fun hm => by
          obtain ⟨j, hj, e⟩ := List.getElem_of_mem hm
          refine HS.out j (by rw [← HL.out]; exact hj) ?_
          unfold nth
          rw [List.getD_eq_getElem?_getD, List.getElem?_eq_getElem hj]
          exact e
        go_wp2
        go_ret
        exact ⟨-1, rfl, ⟨fun h => absurd h (by decide), fun h => absurd h HF.out⟩, rfl⟩
set_option maxRecDepth 100000 in
set_option maxHeartbeats 1000000 in
theorem containsU_any (a : Option Addr) (zs : List Int) (len cap : Nat) (v : Int) (w : World) (hl : zs.length = len) (hm : len ≤ 4611686018427387904) (h : At w a zs) :
    Calls Tryz.prog 103 #[.slice a len cap, .int .i64 v] w fun e w' => e = .returned (.bool (decide (v ∈ zs))) ∧ w = w' := by
  have IX := hiddenN (indexU_any a zs len cap v w hl hm h)
  clear h hl
  by_cases hv : v ∈ zs
  · rw [decide_eq_true hv]
    go_enter Tryz.func103, Tryz.ntmps103
    go_wp2_with (go_at_call 123; (with_reducible refine IX.out.mono ?_); rintro e w' ⟨x, rfl, hx, rfl⟩; have hx0 := hx.2 hv; clear hx)
    go_ret
    exact ⟨rfl, rfl⟩
  · rw [decide_eq_false hv]
    go_enter Tryz.func103, Tryz.ntmps103
    go_wp2_with (go_at_call 123; (with_reducible refine IX.out.mono ?_); rintro e w' ⟨x, rfl, hx, rfl⟩; have hx0 : ¬ (0 ≤ x) := fun h => hv (hx.1 h); clear hx)
    go_ret
    exact ⟨by simp [hx0], rfl⟩
set_option maxRecDepth 100000 in
set_option maxHeartbeats 1000000 in
theorem totalU_any (a : Option Addr) (zs : List Int) (len cap : Nat) (w : World) (hl : zs.length = len) (hm : len ≤ 32) (hw : ∀ k, k < len → 1 ≤ nth zs k ∧ nth zs k ≤ 4096) (h : At w a zs) :
    Calls Tryz.prog 54 #[.slice a len cap] w fun e w' => e = .returned (.int .i64 (sumU zs)) ∧ w = w' := by
  rcases h with h | ⟨b, off, rfl, hc⟩
  · subst h
    subst hl
    go_enter Tryz.func54, Tryz.ntmps54
    go_wp2
    go_loop [3, 8] (fun s i => i = .int .i64 0 ∧ s = .int .i64 0) (fun _ _ => 0)
    case atStart => exact ⟨rfl, rfl⟩
    case round =>
      obtain ⟨rfl, rfl⟩ := hrel
      go_wp2
      go_ret
      exact ⟨rfl, rfl⟩
  · have HC := hiddenN hc
    have HL := hiddenN hl
    have HW := hiddenN hw
    clear hc hl hw
    go_enter Tryz.func54, Tryz.ntmps54
    go_wp2
    go_loop [3, 8] (fun s i => ∃ (k : Nat) (z : Int), k ≤ len ∧ i = .int .i64 (k : Int) ∧ s = .int .i64 z ∧ 0 ≤ z ∧ z ≤ 4096 * (k : Int) ∧ z + sumU (zs.drop k) = sumU zs) (fun _ i => match i with | .int _ k => len - k.toNat | _ => 0)
    case atStart => exact ⟨0, 0, Nat.zero_le _, rfl, rfl, Int.le_refl _, by simp, by rw [List.drop_zero]; omega⟩
    case round =>
      obtain ⟨k, z, hk, rfl, rfl, hz0, hz1, hs⟩ := hrel
      have HS := hiddenN hs
      clear hs
      by_cases hlt : k < len
      · have c0 := HC.out k (by rw [HL.out]; exact hlt)
        have HD : Hid (zs.drop k = nth zs k :: zs.drop (k + 1)) := drop_nth zs k (by rw [HL.out]; exact hlt)
        have hx := HW.out k hlt
        generalize nth zs k = x at *
        have HN : Hid (z + x + sumU (zs.drop (k + 1)) = sumU zs) := by
          show _ = _
          rw [← HS.out, HD.out]
          show _ = z + (x + sumU _)
          omega
        have hwr : IntKind.i64.wrap (z + x) = z + x := by rw [IntKind.wrap_i64]; omega
        go_wp2
        go_round
        case measure => go_num
        case rel => exact ⟨k + 1, z + x, by omega, by go_num, by first | rfl | rw [hwr], by omega, by push_cast; omega, HN.out⟩
      · have ek : k = len := by omega
        subst ek
        have HF : Hid (sumU zs = z) := by
          show _ = _
          have := HS.out
          rw [List.drop_eq_nil_of_le (by rw [HL.out]; exact Nat.le_refl _)] at this
          have e0 : sumU [] = 0 := rfl
          omega
        go_wp2
        go_ret
        exact ⟨by rw [HF.out]; rfl, rfl⟩
def arnU (n : NN) : List Int → Bool
  | [] => true
  | v :: vs => nodeB n v && arnU n vs
theorem arnU_iff {n : NN} : ∀ {vs : List Int}, arnU n vs = true ↔ ∀ v ∈ vs, nodeB n v = true
  | [] => ⟨fun _ v hv => (by cases hv), fun _ => rfl⟩
  | v :: vs => by
    unfold arnU
    rw [Bool.and_eq_true, arnU_iff]
    simp
set_option maxRecDepth 100000 in
set_option maxHeartbeats 1000000 in
theorem areNodes_any (n : NN) (na : Option Addr) (nc : Nat) (a : Option Addr) (zs : List Int) (len cap : Nat) (w : World) (hl : zs.length = len) (hm : len ≤ 4611686018427387904) (h : At w a zs) :
    Calls Tryz.prog 55 #[.agg #[.int .i64 n.nodes, .slice na n.arcs.length nc], .slice a len cap] w fun e w' => e = .returned (.bool (arnU n zs)) ∧ Below w.heap.size w w' := by
  have b0 := (Below.refl w.heap.size w).alloc (Nat.le_refl _) (.cells #[.int .i64 n.nodes, .slice na n.arcs.length nc] 30)
  have X0 := hiddenN (blkA_new 30 w #[.int .i64 n.nodes, .slice na n.arcs.length nc])
  have B0 := hiddenN b0
  have h' := h.below b0
  clear b0 h
  have y0 := X0.out.cell (k := 0) rfl
  simp only [List.getElem_toArray, List.getElem_cons_zero] at y0
  go_enter Tryz.func55, Tryz.ntmps55
  go_upto_region 1 with fail
  generalize w.alloc (.cells #[.int .i64 n.nodes, .slice na n.arcs.length nc] 30) = W0 at *
  rcases h' with h | ⟨b, off, rfl, hc⟩
  · subst h
    subst hl
    go_wp2
    go_loop [9] (fun i => i = .int .i64 0) (fun _ => 0)
    case atStart => exact rfl
    case round =>
      subst hrel
      go_wp2
      go_ret
      exact ⟨rfl, B0.out⟩
  · have HC := hiddenN hc
    have HL := hiddenN hl
    clear hc hl
    go_wp2
    go_loop [9] (fun i => ∃ k : Nat, k ≤ len ∧ i = .int .i64 (k : Int) ∧ arnU n (zs.drop k) = arnU n zs) (fun i => match i with | .int _ k => len - k.toNat | _ => 0)
    case atStart => exact ⟨0, Nat.zero_le _, rfl, rfl⟩
    case round =>
      obtain ⟨k, hk, rfl, hs⟩ := hrel
      have HS := hiddenN hs
      clear hs
      by_cases hlt : k < len
      · have c0 := HC.out k (by rw [HL.out]; exact hlt)
        have HD : Hid (zs.drop k = nth zs k :: zs.drop (k + 1)) := drop_nth zs k (by rw [HL.out]; exact hlt)
        generalize nth zs k = z at *
        by_cases h1 : z < 0
        · have HF : Hid (arnU n zs = false) := by
            show _ = _
            rw [← HS.out, HD.out, arnU, show nodeB n z = false from decide_eq_false (by omega)]
            rfl
          go_wp2
          go_ret
          exact ⟨by rw [HF.out]; rfl, B0.out⟩
        · by_cases h2 : n.nodes ≤ z
          · have HF : Hid (arnU n zs = false) := by
              show _ = _
              rw [← HS.out, HD.out, arnU, show nodeB n z = false from decide_eq_false (by omega)]
              rfl
            have hge : z ≥ n.nodes := h2
            go_wp2
            go_ret
            exact ⟨by rw [HF.out]; rfl, B0.out⟩
          · have HN : Hid (arnU n (zs.drop (k + 1)) = arnU n zs) := by
              show _ = _
              rw [← HS.out, HD.out, arnU, show nodeB n z = true from decide_eq_true (by omega), Bool.true_and]
            go_wp2
            go_round
            case measure => go_num
            case rel => exact ⟨k + 1, by omega, by go_num, HN.out⟩
      · have ek : k = len := by omega
        subst ek
        have HF : Hid (arnU n zs = true) := by
          show _ = _
          rw [← HS.out, List.drop_eq_nil_of_le (by rw [HL.out]; exact Nat.le_refl _)]
          rfl
        go_wp2
        go_ret
        exact ⟨by rw [HF.out]; rfl, B0.out⟩
theorem take_snocU {zs : List Int} {k : Nat} (h : k < zs.length) : zs.take (k + 1) = zs.take k ++ [nth zs k] := take_snoc h
theorem nth_memU {zs : List Int} {k : Nat} (h : k < zs.length) : nth zs k ∈ zs := by
  unfold nth
  rw [List.getD_eq_getElem?_getD, List.getElem?_eq_getElem h]
  exact List.getElem_mem _
set_option maxRecDepth 100000 in
set_option maxHeartbeats 4000000 in
theorem withNew_any (B : Nat) (O : List Int) (d : Option Addr) (cO : Nat) (vs : List Int) (a : Option Addr) (len cap N : Nat) (w : World) (hl : vs.length = len) (hm : len ≤ 4611686018427387904) (hN : N ≤ 32) (hO : O.Nodup) (hOi : ∀ z ∈ O, 0 ≤ z ∧ z < (N : Int)) (hvi : ∀ z ∈ vs, 0 ≤ z ∧ z < (N : Int)) (hB : B ≤ w.heap.size) (hC : CapR B w d cO O) (h : At w a vs) (hab : (∀ x, a = some x → vs ≠ [] → x.block < B) ∨ len = 1) :
    Calls Tryz.prog 82 #[.slice d O.length cO, .slice a len cap] w fun e w' => ∃ d' c', e = .returned (.slice d' (wnU O vs).length c') ∧ CapR B w' d' c' (wnU O vs) ∧ Below B w w' := by
  obtain ⟨RE, hRE⟩ : ∃ R, (fun (e : Ending) (w' : World) => ∃ d' c', e = .returned (.slice d' (wnU O vs).length c') ∧ CapR B w' d' c' (wnU O vs) ∧ Below B w w') = R := ⟨_, rfl⟩
  rw [hRE]
  have HRE := hiddenN hRE
  have HL := hiddenN hl
  have HA := hiddenN h
  have HC := hiddenN hC
  have HO := hiddenN hO
  have HOi := hiddenN hOi
  have HVi := hiddenN hvi
  clear hRE hl h hC hO hOi hvi
  go_enter Tryz.func82, Tryz.ntmps82
  go_wp2
  go_loopg [0, 9] len (fun gk u0 u9 wr => ∃ (k c1 : Nat) (d1 : Option Addr), k ≤ len ∧ gk = len - k ∧ u0 = .slice d1 (wnU O (vs.take k)).length c1 ∧ u9 = .int .i64 (k : Int) ∧ CapR B wr d1 c1 (wnU O (vs.take k)) ∧ Below B w wr ∧ (k < len → At wr a vs))
  case atStart => exact ⟨0, cO, d, Nat.zero_le _, rfl, rfl, rfl, HC.out, Below.refl _ _, fun _ => HA.out⟩
  case round =>
    obtain ⟨k, c1, d1, hk, rfl, rfl, rfl, hc1, hb1, ha1⟩ := hrel
    have C1 := hiddenN hc1
    have B1 := hiddenN hb1
    clear hc1 hb1
    by_cases hlt : k < len
    · have hkv : k < vs.length := by rw [HL.out]; exact hlt
      have A1 := hiddenN (ha1 hlt)
      clear ha1
      have hnd1 : (wnU O (vs.take k)).Nodup := wnU_nodup HO.out
      have hin1 : ∀ z ∈ wnU O (vs.take k), 0 ≤ z ∧ z < (N : Int) := fun z hz => by
        rcases wnU_mem.1 hz with h1 | h1
        · exact HOi.out z h1
        · exact HVi.out z (List.mem_of_mem_take h1)
      have hl1 := nodup_few hnd1 hin1
      clear hnd1 hin1
      have TS := hiddenN (take_snocU hkv)
      have WS : Hid (wnU O (vs.take (k + 1)) = if nth vs k ∈ wnU O (vs.take k) then wnU O (vs.take k) else wnU O (vs.take k) ++ [nth vs k]) := by show _ = _; rw [TS.out, wnU_snoc]
      have hBr : B ≤ wr.heap.size := Nat.le_trans hB B1.out.size
      rcases A1.out with e | ⟨b, off, rfl, hc⟩
      · rw [e] at hkv; exact absurd hkv (Nat.not_lt_zero _)
      have c0 := hc k hkv
      clear hc TS
      have AN : Hid (∀ W, Below B wr W → k + 1 < len → At W (some ⟨b, off, none⟩) vs) := fun W hW hk1 => by
        rcases hab with h1 | h1
        · exact A1.out.keep fun x hx => by cases hx; exact hW.block _ (h1 _ rfl (fun e => by rw [e] at hkv; exact absurd hkv (Nat.not_lt_zero _)))
        · omega
      generalize nth vs k = v at *
      generalize hQ : wnU O (vs.take k) = Q at *
      have CN := hiddenN (fun (W : World) (hW : At W d1 Q) => containsU_any d1 Q Q.length c1 v W rfl (by omega) hW)
      by_cases hv : v ∈ Q
      · rw [if_pos hv] at WS
        have hdv : decide (v ∈ Q) = true := decide_eq_true hv
        rw [hdv] at CN
        clear hdv hv
        go_wp2_with (go_at_call 103; (with_reducible refine (CN.out wr C1.out.at).mono ?_); rintro e w1 ⟨rfl, rfl⟩)
        go_roundg (len - (k + 1))
        case measure => omega
        case rel => exact ⟨k + 1, c1, d1, by omega, rfl, by rw [WS.out], by go_num, by rw [WS.out]; exact C1.out, B1.out, AN.out _ (Below.refl _ _)⟩
      · rw [if_neg hv] at WS
        have hdv : decide (v ∈ Q) = false := decide_eq_false hv
        rw [hdv] at CN
        clear hdv hv
        have ba := (Below.refl wr.heap.size wr).alloc (Nat.le_refl _) (.cells #[.int .i64 v] 3)
        have AX := hiddenN (at_alloc1 wr v)
        have CX := hiddenN (C1.out.later ba)
        have BX := hiddenN (ba.mono hBr)
        have hBx : B ≤ (wr.alloc (.cells #[.int .i64 v] 3)).heap.size := Nat.le_trans hBr ba.size
        clear ba
        go_wp2_with (first
          | (go_at_call 103; (with_reducible refine (CN.out wr C1.out.at).mono ?_); rintro e w1 ⟨rfl, rfl⟩)
          | (at_builtin; refine wpList_appI rfl _ _ rfl B d1 c1 Q rfl CX.out (some ⟨wr.heap.size, 0, none⟩) 1 [v] rfl (fun e => by cases e) AX.out (by simp; omega) hBx (Q.length + 1) (Q ++ [v]) rfl rfl ?_; intro d3 c3 W3 hd3 b3; have C3 := hiddenN hd3; have B3 := hiddenN (BX.out.trans b3); clear hd3 b3))
        go_roundg (len - (k + 1))
        case measure => omega
        case rel => exact ⟨k + 1, c3, d3, by omega, rfl, by rw [WS.out]; simp, by go_num, by rw [WS.out]; exact C3.out, B1.out.trans B3.out, AN.out _ B3.out⟩
    · have ek : k = len := by omega
      subst ek
      clear ha1
      have HT : Hid (vs.take k = vs) := List.take_of_length_le (by rw [HL.out]; exact Nat.le_refl _)
      rw [HT.out] at C1 ⊢
      go_wp2
      rw [← HRE.out]
      exact ⟨d1, c1, rfl, C1.out, B1.out⟩
set_option maxRecDepth 100000 in
set_option maxHeartbeats 4000000 in
theorem ranked_any (P : List Int) (a : Option Addr) (len cap N : Nat) (w : World) (hl : P.length = len) (hm : len ≤ 4611686018427387904) (hN : N ≤ 32) (hvi : ∀ z ∈ P, 0 ≤ z ∧ z < (N : Int)) (h : At w a P) :
    Calls Tryz.prog 56 #[.int .i64 (N : Int), .slice a len cap] w fun e w' => ∃ d' c', e = .returned (.slice d' (ranU N P).length c') ∧ CapR w.heap.size w' d' c' (ranU N P) ∧ Below w.heap.size w w' := by
  obtain ⟨RE, hRE⟩ : ∃ R, (fun (e : Ending) (w' : World) => ∃ d' c', e = .returned (.slice d' (ranU N P).length c') ∧ CapR w.heap.size w' d' c' (ranU N P) ∧ Below w.heap.size w w') = R := ⟨_, rfl⟩
  rw [hRE]
  have HRE := hiddenN hRE
  have WN : Hid (Calls Tryz.prog 82 #[.slice none 0 0, .slice a len cap] w fun e w' => ∃ d' c', e = .returned (.slice d' (wnU [] P).length c') ∧ CapR w.heap.size w' d' c' (wnU [] P) ∧ Below w.heap.size w w') := (withNew_any w.heap.size [] none 0 P a len cap N w hl hm hN List.nodup_nil (fun z hz => by cases hz) hvi (Nat.le_refl _) (World.ownsRow_nil _ _ _ _) h (.inl fun x hx hne => at_lt h hne hx))
  have WN1 : Hid (∀ (W : World) (O : List Int) (d : Option Addr) (c : Nat) (v : Int), w.heap.size ≤ W.heap.size → O.Nodup → (∀ z ∈ O, 0 ≤ z ∧ z < (N : Int)) → 0 ≤ v ∧ v < (N : Int) → CapR w.heap.size W d c O → Calls Tryz.prog 82 #[.slice d O.length c, .slice (some ⟨W.heap.size, 0, none⟩) 1 1] (W.alloc (.cells #[.int .i64 v] 3)) fun e w' => ∃ d' c', e = .returned (.slice d' (wnU O [v]).length c') ∧ CapR w.heap.size w' d' c' (wnU O [v]) ∧ Below w.heap.size W w') := fun W O d c v hs hO hOi hv hC => by
    have ba := (Below.refl W.heap.size W).alloc (Nat.le_refl _) (.cells #[.int .i64 v] 3)
    refine (withNew_any w.heap.size O d c [v] (some ⟨W.heap.size, 0, none⟩) 1 1 N _ rfl (by decide) hN hO hOi (fun z hz => by rw [List.mem_singleton] at hz; rw [hz]; exact hv) (Nat.le_trans hs ba.size) (hC.later ba) (at_alloc1 W v) (.inr rfl)).mono ?_
    rintro e w' ⟨d', c', rfl, h1, h2⟩
    exact ⟨d', c', rfl, h1, (ba.mono hs).trans h2⟩
  have HPi := hiddenN hvi
  clear hRE hl h hvi
  go_enter Tryz.func56, Tryz.ntmps56
  go_upto_region 2 with (go_at_call 82; (with_reducible refine WN.out.mono ?_); rintro e w1 ⟨d1, c1, rfl, hc1, hb1⟩; have C1 := hiddenN hc1; have B1 := hiddenN hb1; clear hc1 hb1)
  clear WN
  go_upto_region 3 with fail
  obtain ⟨BB, hBB⟩ : ∃ q, w.heap.size = q := ⟨_, rfl⟩
  have HBB := hiddenN hBB
  go_loopg [5, 6] N (fun gk u5 u6 wr => ∃ (q c : Nat) (d : Option Addr) (L : List Int) (z : Int), q ≤ N ∧ gk = q ∧ z = (q : Int) - 1 ∧ u6 = .int .i64 z ∧ fallU N = L ++ fallU q ∧ u5 = .slice d (wnU (wnU [] P) L).length c ∧ CapR w.heap.size wr d c (wnU (wnU [] P) L) ∧ Below w.heap.size w wr)
  case atStart => exact ⟨N, c1, d1, [], (N : Int) - 1, Nat.le_refl _, rfl, rfl, by first | rfl | go_num, rfl, rfl, C1.out, B1.out⟩
  case round =>
    clear C1 B1
    obtain ⟨q, c, d, L, z, hq, rfl, hz, rfl, hf, rfl, hc, hb⟩ := hrel
    have C1 := hiddenN hc
    have B1 := hiddenN hb
    have HF := hiddenN hf
    clear hc hb hf
    cases gk with
    | zero =>
      have hz' : z = -1 := by omega
      subst hz'
      clear hz
      have HL : Hid (wnU (wnU [] P) L = ranU N P) := by
        show _ = _
        unfold ranU
        rw [HF.out]
        show _ = wnU _ (L ++ [])
        rw [List.append_nil]
      rw [HL.out] at C1 ⊢
      go_wp2
      rw [← HRE.out]
      exact ⟨d, c, rfl, C1.out, B1.out⟩
    | succ k =>
      have hz' : z = (k : Int) := by omega
      subst hz'
      clear hz
      have hkI : (0 : Int) ≤ (k : Int) := by omega
      have hge : (k : Int) ≥ 0 := hkI
      have hFm : ∀ x ∈ L, 0 ≤ x ∧ x < (N : Int) := fun x hx => fallU_mem.1 (by rw [HF.out]; exact List.mem_append_left _ hx)
      have W1 := hiddenN (WN1.out wr (wnU (wnU [] P) L) d c (k : Int) B1.out.size (wnU_nodup (wnU_nodup List.nodup_nil)) (fun x hx => by
        rcases wnU_mem.1 hx with h1 | h1
        · rcases wnU_mem.1 h1 with h2 | h2
          · cases h2
          · exact HPi.out x h2
        · exact hFm x h1) (by omega) C1.out)
      have HS : Hid (wnU (wnU (wnU [] P) L) [(k : Int)] = wnU (wnU [] P) (L ++ [(k : Int)])) := by show _ = _; rw [wnU_snoc]; rfl
      rw [HS.out] at W1
      clear hFm
      go_wp2_with (go_at_call 82; (with_reducible refine W1.out.mono ?_); rintro e w2 ⟨d2, c2, rfl, hc2, hb2⟩; have C2 := hiddenN hc2; have B2 := hiddenN (B1.out.trans hb2); clear hc2 hb2)
      go_roundg k
      case measure => omega
      case rel => exact ⟨k, c2, d2, L ++ [(k : Int)], (k : Int) - 1, by omega, rfl, rfl, by first | rfl | go_num, by rw [HF.out, List.append_assoc]; rfl, rfl, C2.out, B2.out⟩
structure RnU (B E : Nat) (w : World) (K0 K gL gO cL cO : Nat) (n : NN) (T F L O : List Int) : Prop where
  st : StE B E w K n T F
  blk : BlkA 133 K0 w #[.pointer (some ⟨K, 0, none⟩), .slice (some ⟨gL, 0, none⟩) L.length cL, .slice (some ⟨gO, 0, none⟩) O.length cO]
  lef : CapR E w (some ⟨gL, 0, none⟩) cL L
  ord : CapR E w (some ⟨gO, 0, none⟩) cO O
  hK : E ≤ K0
  nL : K0 ≠ gL
  nO : K0 ≠ gO
  nLO : gL ≠ gO
  lL : L.length = n.nodes.toNat
  lO : O.length ≤ 32
  nd : ∀ v ∈ O, nodeB n v = true
theorem RnU.lts {B E : Nat} {w : World} {K0 K gL gO cL cO : Nat} {n : NN} {T F L O : List Int} (h : RnU B E w K0 K gL gO cL cO n T F L O) : K0 < w.heap.size ∧ (E ≤ gL ∧ gL < w.heap.size) ∧ (E ≤ gO ∧ gO < w.heap.size) ∧ E ≤ w.heap.size ∧ B ≤ w.heap.size :=
  ⟨h.blk.lt, h.lef.lt _ rfl, h.ord.lt _ rfl, h.st.low.2, h.st.low.1⟩
theorem RnU.keep {B E Q : Nat} {w w' : World} {K0 K gL gO cL cO : Nat} {n : NN} {T F L O : List Int} (h : RnU B E w K0 K gL gO cL cO n T F L O) (h0 : K0 < Q) (h1 : gL < Q) (h2 : gO < Q) (h3 : E ≤ Q) (hk : ∀ k, k < Q → w'.heap[k]? = w.heap[k]?) (hs : w.heap.size ≤ w'.heap.size) : RnU B E w' K0 K gL gO cL cO n T F L O :=
  ⟨h.st.keep (fun k _ hE => hk k (by omega)) hs, h.blk.keep (hk _ h0), h.lef.keep (fun x hx => by cases hx; exact hk _ h1), h.ord.keep (fun x hx => by cases hx; exact hk _ h2), h.hK, h.nL, h.nO, h.nLO, h.lL, h.lO, h.nd⟩
theorem RnU.below {B E : Nat} {w w' : World} {K0 K gL gO cL cO : Nat} {n : NN} {T F L O : List Int} (h : RnU B E w K0 K gL gO cL cO n T F L O) (hb : Below w.heap.size w w') : RnU B E w' K0 K gL gO cL cO n T F L O :=
  h.keep h.lts.1 h.lts.2.1.2 h.lts.2.2.1.2 h.lts.2.2.2.1 (fun k hk => hb.block k hk) hb.size
theorem RnU.fire {B E : Nat} {w w' : World} {K0 K gL gO cL cO : Nat} {n : NN} {T F T' F' L O : List Int} (h : RnU B E w K0 K gL gO cL cO n T F L O) (hs : StE B E w' K n T' F') (hM : Mid B E w w') : RnU B E w' K0 K gL gO cL cO n T' F' L O :=
  ⟨hs, h.blk.keep (hM.block _ h.lts.1 (.inr h.hK)), h.lef.keep (fun x hx => by cases hx; exact hM.block _ h.lts.2.1.2 (.inr h.lts.2.1.1)), h.ord.keep (fun x hx => by cases hx; exact hM.block _ h.lts.2.2.1.2 (.inr h.lts.2.2.1.1)), h.hK, h.nL, h.nO, h.nLO, h.lL, h.lO, h.nd⟩
theorem RnU.left {B E : Nat} {w : World} {K0 K gL gO cL cO : Nat} {n : NN} {T F L O : List Int} (h : RnU B E w K0 K gL gO cL cO n T F L O) (k : Nat) (x : Int) : RnU B E (w.setCell ⟨gL, k, none⟩ (.int .i64 x)) K0 K gL gO cL cO n T F (L.set k x) O := by
  have hk : ∀ j, j ≠ gL → (w.setCell ⟨gL, k, none⟩ (.int .i64 x)).heap[j]? = w.heap[j]? := fun j hj => Below.heap_setCell w ⟨gL, k, none⟩ _ j hj
  refine ⟨h.st.keep (fun j _ hE => hk j (by have := h.lts.2.1.1; omega)) (by rw [World.size_setCell]; exact Nat.le_refl _), ?_, h.lef.setAt x, h.ord.keep (fun y hy => by cases hy; exact hk _ (Ne.symm h.nLO)), h.hK, h.nL, h.nO, h.nLO, by rw [List.length_set]; exact h.lL, h.lO, h.nd⟩
  rw [List.length_set]
  exact h.blk.keep (hk _ h.nL)
def gLU (n : NN) (L T : List Int) (v : Int) : Bool := decide (0 < nth L v.toNat) && mayN n T v
def nxI (o : Option Int) : Int := o.getD (-1)
def LfU (n : NN) (R F L : List Int) : Prop := ∀ k, k < n.nodes.toNat → nth L k = nth R k - nth F k
theorem find_congrU {p q : Int → Bool} : ∀ {O : List Int}, (∀ v ∈ O, p v = q v) → O.find? p = O.find? q
  | [], _ => rfl
  | v :: O, h => by
    rw [List.find?_cons, List.find?_cons, h v (List.mem_cons_self ..), find_congrU fun u hu => h u (List.mem_cons_of_mem _ hu)]
theorem nex_left {n : NN} {R T F L O : List Int} (h : LfU n R F L) (hn : ∀ v ∈ O, nodeB n v = true) : O.find? (gLU n L T) = nexU n R O T F := by
  unfold nexU
  refine find_congrU fun v hv => ?_
  have := node_in (hn v hv)
  have e := h v.toNat (by omega)
  unfold gLU goU lefU
  congr 1
  rw [Bool.eq_iff_iff, decide_eq_true_iff, decide_eq_true_iff]
  omega
set_option maxRecDepth 100000 in
set_option maxHeartbeats 4000000 in
theorem nextU_any {B E : Nat} (w : World) (K0 K gL gO cL cO : Nat) (n : NN) (T F L O : List Int) (h : RnU B E w K0 K gL gO cL cO n T F L O) :
    Calls Tryz.prog 57 #[.pointer (some ⟨K0, 0, none⟩)] w fun e w' => e = .returned (.int .i64 (nxI (O.find? (gLU n L T)))) ∧ Below w.heap.size w w' := by
  obtain ⟨r, hr⟩ : ∃ r, O.find? (gLU n L T) = r := ⟨_, rfl⟩
  rw [hr]
  have H0 := hiddenN h
  have HR := hiddenN hr
  have hlO := h.lO
  have hlL := h.lL
  have y2 := h.blk.cell (k := 2) rfl
  simp only [List.getElem_toArray, List.getElem_cons_zero, List.getElem_cons_succ] at y2
  obtain ⟨N, hN⟩ : ∃ N, O.length = N := ⟨_, rfl⟩
  rw [hN] at y2 hlO
  have HN := hiddenN hN
  clear h hr hN
  go_enter Tryz.func57, Tryz.ntmps57
  go_wp2
  clear y2
  go_loopg [10] N (fun gk u wr => ∃ k : Nat, k ≤ N ∧ gk = N - k ∧ u = .int .i64 (k : Int) ∧ Below w.heap.size w wr ∧ (O.drop k).find? (gLU n L T) = r)
  case atStart => exact ⟨0, Nat.zero_le _, rfl, rfl, Below.refl _ _, HR.out⟩
  case round =>
    obtain ⟨k, hk, rfl, rfl, hb, hs⟩ := hrel
    have HS := hiddenN hs
    have B1 := hiddenN hb
    clear hs hb
    by_cases hlt : k < N
    · have hko : k < O.length := by rw [HN.out]; exact hlt
      have H1 := hiddenN (H0.out.below B1.out)
      have hvO := nth_memU hko
      have hnb := H0.out.nd _ hvO
      have HD : Hid (O.drop k = nth O k :: O.drop (k + 1)) := drop_nth O k hko
      rcases H1.out.ord.at with e | ⟨ob, oo, eo, hco⟩
      · rw [e] at hko; exact absurd hko (Nat.not_lt_zero _)
      cases eo
      have c0 := hco k hko
      rw [Nat.zero_add] at c0
      have hn := node_in hnb
      have y0 := H1.out.blk.cell (k := 0) rfl
      have y1 := H1.out.blk.cell (k := 1) rfl
      simp only [List.getElem_toArray, List.getElem_cons_zero, List.getElem_cons_succ] at y0 y1
      clear hco hvO
      obtain ⟨m, hm⟩ : ∃ m : Nat, nth O k = (m : Int) := ⟨(nth O k).toNat, by omega⟩
      rw [hm] at c0 HD hn hnb
      have hmL : m < L.length := by rw [hlL]; omega
      rcases H1.out.lef.at with e | ⟨lb, lo, el, hcl⟩
      · rw [e] at hmL; exact absurd hmL (Nat.not_lt_zero _)
      cases el
      have c1 := hcl m hmL
      rw [Nat.zero_add] at c1
      have HG : Hid (gLU n L T (m : Int) = (decide (0 < nth L m) && mayN n T (m : Int))) := by show _ = _; unfold gLU; rw [Int.toNat_natCast]
      have MY := hiddenN (may_any wr K n T F H1.out.st (m : Int))
      generalize nth L m = x at *
      generalize L.length = NL at *
      clear hcl
      by_cases hx : 0 < x
      · cases hb : mayN n T (m : Int) with
        | true =>
          have HF : Hid (r = some (m : Int)) := by
            show _ = _
            rw [← HS.out, HD.out, List.find?_cons, HG.out, decide_eq_true hx, hb]
            rfl
          rw [hb] at MY
          have hgt : x > 0 := hx
          clear HG hb
          go_wp2_with (go_at_call 32; (with_reducible refine MY.out.mono ?_); rintro e w1 ⟨rfl, b1⟩; have B2 := hiddenN (B1.out.trans (b1.mono B1.out.size)); clear b1)
          go_ret
          exact ⟨by rw [HF.out]; rfl, B2.out⟩
        | false =>
          have HF : Hid ((O.drop (k + 1)).find? (gLU n L T) = r) := by
            show _ = _
            rw [← HS.out, HD.out, List.find?_cons, HG.out, decide_eq_true hx, hb]
            rfl
          rw [hb] at MY
          have hgt : x > 0 := hx
          clear HG hb
          go_wp2_with (go_at_call 32; (with_reducible refine MY.out.mono ?_); rintro e w1 ⟨rfl, b1⟩; have B2 := hiddenN (B1.out.trans (b1.mono B1.out.size)); clear b1)
          go_roundg (N - (k + 1))
          case measure => omega
          case rel => exact ⟨k + 1, by omega, rfl, by go_num, B2.out, HF.out⟩
      · have HF : Hid ((O.drop (k + 1)).find? (gLU n L T) = r) := by
          show _ = _
          rw [← HS.out, HD.out, List.find?_cons, HG.out, decide_eq_false hx]
          rfl
        have hgt : ¬ x > 0 := hx
        clear HG MY
        go_wp2
        go_roundg (N - (k + 1))
        case measure => omega
        case rel => exact ⟨k + 1, by omega, rfl, by go_num, B1.out, HF.out⟩
    · have ek : k = N := by omega
      subst ek
      have HF : Hid (r = none) := by
        show _ = _
        rw [← HS.out, List.drop_eq_nil_of_le (by rw [HN.out]; exact Nat.le_refl _)]
        rfl
      go_wp2
      go_ret
      exact ⟨by rw [HF.out]; rfl, B1.out⟩
theorem nxI_none {n : NN} {R O T F : List Int} (h : nexU n R O T F = none) : nxI (nexU n R O T F) = -1 := by rw [h]; rfl
theorem lf_step {n : NN} {R F L : List Int} {m : Int} {T : List Int} (h : LfU n R F L) (hq : EqN n m T F) (hm : m ≤ 1000000000) (hl : L.length = n.nodes.toNat) {v : Nat} (hv : v < n.nodes.toNat) : LfU n R (bumpF F (v : Int)) (L.set v (nth L v - 1)) := by
  intro k hk
  rw [bump_eq hq hm (by omega) hk]
  by_cases e : k = v
  · subst e
    rw [nth_set_eq (by omega), if_pos rfl, h k hk]; omega
  · rw [nth_set_ne (by omega), if_neg (by omega), h k hk]; omega
/-- Where a run stands, and what is still to come. -/
structure MidU (n : NN) (R O : List Int) (f : Nat) (T0 F0 : List Int) (Z T F L : List Int) (m : Int) (f1 : Nat) : Prop where
  lf : LfU n R F L
  eq : EqN n m T F
  top : LeU n F R
  sum : sumU R - sumU F ≤ (f1 : Int)
  few : m + (f1 : Int) ≤ 1000000000
  run : runU n R O f T0 F0 = (Z ++ (runU n R O f1 T F).1, (runU n R O f1 T F).2)
  len : Z.length + f1 = f
theorem MidU.step {n : NN} {R O : List Int} {f : Nat} {T0 F0 Z T F L : List Int} {m : Int} {f1 : Nat} (h : MidU n R O f T0 F0 Z T F L m f1) (hS : SoundN n) (hR : R.length = n.nodes.toNat) (hl : L.length = n.nodes.toNat) {v : Nat} (hx : nexU n R O T F = some (v : Int)) : ∃ f2, f1 = f2 + 1 ∧ v < n.nodes.toNat ∧ 0 < nth L v ∧ nth L v ≤ nth R v ∧ mayN n T (v : Int) = true ∧ MidU n R O f T0 F0 (Z ++ [(v : Int)]) (fireN n T (v : Int)) (bumpF F (v : Int)) (L.set v (nth L v - 1)) (m + 1) f2 := by
  obtain ⟨hlt, hv⟩ := go_parts (nex_some hx).1
  have hnb := may_node hv
  have hn := node_in hnb
  rw [Int.toNat_natCast] at hlt
  have hvN : v < n.nodes.toNat := by omega
  have hs := sum_lt (F := F) (R := R) (j := v) (by rw [h.eq.lF, hR]) (fun k hk => h.top k (by rw [← h.eq.lF]; exact hk)) (by rw [h.eq.lF]; exact hvN) hlt
  have hsum := h.sum
  have hfew := h.few
  cases f1 with
  | zero => simp at hsum; omega
  | succ f2 =>
    push_cast at hfew hsum
    have hLv := h.lf v hvN
    have hF0 := h.eq.fs v hvN
    refine ⟨f2, rfl, hvN, by omega, by omega, hv, lf_step h.lf h.eq (by omega) hl hvN, fire_eqL hS h.eq (by omega) hv, fun k hk => ?_, ?_, by omega, ?_, ?_⟩
    · rw [bump_eq h.eq (by omega) (by omega) hk]
      have := h.top k hk
      by_cases e : k = v
      · subst e; rw [if_pos rfl]; omega
      · rw [if_neg (by omega)]; omega
    · rw [sum_bump h.eq (by omega) hnb]; omega
    · rw [h.run, run_some hx]
      simp
    · have := h.len; simp; omega
theorem MidU.done {n : NN} {R O : List Int} {f : Nat} {T0 F0 Z T F L : List Int} {m : Int} {f1 : Nat} (h : MidU n R O f T0 F0 Z T F L m f1) (hx : nexU n R O T F = none) : runU n R O f T0 F0 = (Z, T, F) := by
  rw [h.run]
  cases f1 with
  | zero => show (Z ++ [], T, F) = _; rw [List.append_nil]
  | succ f2 => rw [run_none hx]; show (Z ++ [], T, F) = _; rw [List.append_nil]
theorem StE.base {B E : Nat} {w : World} {K : Nat} {n : NN} {T F : List Int} (h : StE B E w K n T F) : B ≤ E := by
  obtain ⟨aA, cA, H1, H2, D1, D2, E1, E2, aT, cT, gF, h⟩ := h
  have := h.iF; omega
theorem Below.setCell' {B : Nat} (w : World) (a : Addr) (v : Value) (h : B ≤ a.block) : Below B w (w.setCell a v) := ⟨rfl, rfl, rfl, by rw [World.size_setCell]; exact Nat.le_refl _, fun k hk => Below.heap_setCell _ _ _ _ (by omega)⟩
set_option maxRecDepth 100000 in
set_option maxHeartbeats 8000000 in
theorem fireAll_any {B E : Nat} (w : World) (K0 K gL gO cL cO : Nat) (n : NN) (T F L R O : List Int) (f : Nat) (m : Int) (h : RnU B E w K0 K gL gO cL cO n T F L O) (hS : SoundN n) (hR : R.length = n.nodes.toNat) (hRb : ∀ k, k < n.nodes.toNat → nth R k ≤ 4096) (hf : f ≤ 4096) (hM : MidU n R O f T F [] T F L m f) :
    Calls Tryz.prog 28 #[.pointer (some ⟨K0, 0, none⟩)] w fun e w' => ∃ d c L1, e = .returned (.slice d (runU n R O f T F).1.length c) ∧ CapR w.heap.size w' d c (runU n R O f T F).1 ∧ RnU B E w' K0 K gL gO cL cO n (runU n R O f T F).2.1 (runU n R O f T F).2.2 L1 O ∧ LfU n R (runU n R O f T F).2.2 L1 ∧ Below B w w' := by
  obtain ⟨RE, hRE⟩ : ∃ Q, (fun (e : Ending) (w' : World) => ∃ d c L1, e = .returned (.slice d (runU n R O f T F).1.length c) ∧ CapR w.heap.size w' d c (runU n R O f T F).1 ∧ RnU B E w' K0 K gL gO cL cO n (runU n R O f T F).2.1 (runU n R O f T F).2.2 L1 O ∧ LfU n R (runU n R O f T F).2.2 L1 ∧ Below B w w') = Q := ⟨_, rfl⟩
  rw [hRE]
  have HRE := hiddenN hRE
  have H0 := hiddenN h
  have HM := hiddenN hM
  obtain ⟨Q, hQ⟩ : ∃ q, w.heap.size = q := ⟨_, rfl⟩
  have HQ := hiddenN hQ
  have hlts := h.lts
  rw [hQ] at hlts
  have HNX : Hid (∀ (W : World) (T1 F1 L1 : List Int), RnU B E W K0 K gL gO cL cO n T1 F1 L1 O → LfU n R F1 L1 → Calls Tryz.prog 57 #[.pointer (some ⟨K0, 0, none⟩)] W fun e w' => e = .returned (.int .i64 (nxI (nexU n R O T1 F1))) ∧ Below W.heap.size W w') := fun W T1 F1 L1 hr hl => by
    have := nextU_any W K0 K gL gO cL cO n T1 F1 L1 O hr
    rw [nex_left hl hr.nd] at this
    exact this
  have N0 := hiddenN (HNX.out w T F L h hM.lf)
  clear hRE h hM hQ
  go_enter Tryz.func28, Tryz.ntmps28
  go_upto_region 3 with (go_at_call 57; (with_reducible refine N0.out.mono ?_); rintro e w1 ⟨rfl, b1⟩; have B1 := hiddenN b1; clear b1)
  clear N0
  go_loopg [3, 4] f (fun gk u3 u4 wr => ∃ (Z T1 F1 L1 : List Int) (d : Option Addr) (c : Nat) (m1 x : Int), u3 = .slice d Z.length c ∧ u4 = .int .i64 x ∧ x = nxI (nexU n R O T1 F1) ∧ RnU B E wr K0 K gL gO cL cO n T1 F1 L1 O ∧ CapR Q wr d c Z ∧ Below B w wr ∧ Q ≤ wr.heap.size ∧ MidU n R O f T F Z T1 F1 L1 m1 gk)
  case atStart => exact ⟨[], T, F, L, none, 0, m, _, rfl, rfl, rfl, H0.out.below B1.out, World.ownsRow_nil _ _ _ _, B1.out.mono H0.out.lts.2.2.2.2, by rw [← HQ.out]; exact B1.out.size, HM.out⟩
  case round =>
    clear B1 H0 HM
    obtain ⟨Z, T1, F1, L1, d, c, m1, x, rfl, rfl, hx, hRn, hC, hb, hQr, hMd⟩ := hrel
    have R1 := hiddenN hRn
    have C1 := hiddenN hC
    have B1 := hiddenN hb
    have M1 := hiddenN hMd
    clear hRn hC hb hMd
    cases hnx : nexU n R O T1 F1 with
    | none =>
      rw [nxI_none hnx] at hx
      subst hx
      have HE := hiddenN (M1.out.done hnx)
      clear hnx
      go_wp2
      rw [← HRE.out, HE.out]
      exact ⟨d, c, L1, rfl, by rw [HQ.out]; exact C1.out, R1.out, M1.out.lf, B1.out⟩
    | some v0 =>
      have hnb := (go_parts (nex_some hnx).1).2
      have hn0 := node_in (may_node hnb)
      obtain ⟨v, rfl⟩ : ∃ v : Nat, v0 = (v : Int) := ⟨v0.toNat, by omega⟩
      have hx' : x = (v : Int) := by rw [hx, hnx]; rfl
      subst hx'
      clear hx hnb hn0
      obtain ⟨f2, rfl, hvN, hL0, hL1, hmay, hM2⟩ := M1.out.step hS hR R1.out.lL hnx
      have M2 := hiddenN hM2
      have hRv := hRb v hvN
      clear hM2 hnx
      have hZl : Z.length ≤ 4096 := by have := M1.out.len; omega
      have hne : ¬ ((v : Int) = -1) := by omega
      have hneb : ((v : Int) != -1) = true := by simp
      have y0 := R1.out.blk.cell (k := 0) rfl
      simp only [List.getElem_toArray, List.getElem_cons_zero] at y0
      have ba := (Below.refl wr.heap.size wr).alloc (Nat.le_refl _) (.cells #[.int .i64 (v : Int)] 3)
      have R2 := hiddenN (R1.out.below ba)
      have FI : Hid (Calls Tryz.prog 11 #[.pointer (some ⟨K, 0, none⟩), .slice (some ⟨wr.heap.size, 0, none⟩) 1 1] (wr.alloc (.cells #[.int .i64 (v : Int)] 3)) fun e w' => e = .returned (.int .i64 1) ∧ StE B E w' K n (fireN n T1 (v : Int)) (bumpF F1 (v : Int)) ∧ Mid B E (wr.alloc (.cells #[.int .i64 (v : Int)] 3)) w') := by
        have := fires_any (wr.alloc (.cells #[.int .i64 (v : Int)] 3)) K n T1 F1 R2.out.st (some ⟨wr.heap.size, 0, none⟩) 1 [(v : Int)] (at_alloc1 wr (v : Int)) (by simp) (fun y hy _ => by cases hy; exact .inr R1.out.lts.2.2.2.1)
        rw [fires_one, if_pos hmay] at this
        exact this
      have C2 := hiddenN (C1.out.later ba)
      have B2 := hiddenN (B1.out.trans (ba.mono R1.out.lts.2.2.2.2))
      have hQ2 : Q ≤ (wr.alloc (.cells #[.int .i64 (v : Int)] 3)).heap.size := Nat.le_trans hQr ba.size
      clear ba hmay
      go_upto_region 6 with (go_at_call 11; (with_reducible refine FI.out.mono ?_); rintro e w3 ⟨rfl, s3, m3⟩; have R3 := hiddenN (R2.out.fire s3 m3); have C3 := hiddenN (C2.out.keep fun y hy => m3.block _ (C2.out.lt y hy).2 (.inr (Nat.le_trans hlts.2.2.2.1 (C2.out.lt y hy).1))); have B3 := hiddenN (B2.out.trans (m3.below (Nat.le_trans hlts.2.2.2.2 hQ2))); have hQ3 := Nat.le_trans hQ2 m3.size; clear s3 m3)
      clear FI R1 R2 C1 C2 B1 B2 hQ2 y0 hQr
      have y1 := R3.out.blk.cell (k := 1) rfl
      simp only [List.getElem_toArray, List.getElem_cons_zero, List.getElem_cons_succ] at y1
      have hvL : v < L1.length := by rw [R3.out.lL]; exact hvN
      rcases R3.out.lef.at with e | ⟨lb, lo, el, hcl⟩
      · rw [e] at hvL; exact absurd hvL (Nat.not_lt_zero _)
      cases el
      have c1 := hcl v hvL
      rw [Nat.zero_add] at c1
      have f1 := R3.out.lef.fz v
      have R4 := hiddenN (R3.out.left v (nth L1 v - 1))
      have C4 := hiddenN (C3.out.setOther (ad := ⟨gL, v, none⟩) (fun y hy => by have := (C3.out.lt y hy).1; have := hlts.2.1.2; show y.block ≠ gL; omega) (.int .i64 (nth L1 v - 1)))
      have B4 : Hid (Below B w (w3.setCell ⟨gL, v, none⟩ (.int .i64 (nth L1 v - 1)))) := B3.out.trans (Below.setCell' w3 ⟨gL, v, none⟩ _ (Nat.le_trans (by have := R3.out.st; exact StE.base this) R3.out.lts.2.1.1))
      have hQ4 : Q ≤ (w3.setCell ⟨gL, v, none⟩ (.int .i64 (nth L1 v - 1))).heap.size := by rw [World.size_setCell]; exact hQ3
      have hwr : IntKind.i64.wrap (nth L1 v - 1) = nth L1 v - 1 := by rw [IntKind.wrap_i64]; omega
      generalize hLx : nth L1 v = z at *
      generalize L1.length = NL at *
      clear hcl R3 C3 B3 hQ3
      go_upto_region 7 with fail
      generalize w3.setCell ⟨gL, v, none⟩ (.int .i64 (z - 1)) = w4 at *
      have ba := (Below.refl w4.heap.size w4).alloc (Nat.le_refl _) (.cells #[.int .i64 (v : Int)] 3)
      have R5 := hiddenN (R4.out.below ba)
      have C5 := hiddenN (C4.out.later ba)
      have B5 := hiddenN (B4.out.trans (ba.mono R4.out.lts.2.2.2.2))
      have A5 := hiddenN (at_alloc1 w4 (v : Int))
      have hQ5 : Q ≤ (w4.alloc (.cells #[.int .i64 (v : Int)] 3)).heap.size := Nat.le_trans hQ4 ba.size
      clear ba R4 C4 B4 c1 y1 f1
      go_wp2_with (first
        | (at_builtin; refine wpList_appI rfl _ _ rfl Q d c Z rfl C5.out (some ⟨w4.heap.size, 0, none⟩) 1 [(v : Int)] rfl (fun e => by cases e) A5.out (by simp; omega) hQ5 (Z.length + 1) (Z ++ [(v : Int)]) rfl rfl ?_; intro d6 c6 w6 hd6 b6; have C6 := hiddenN hd6; have R6 := hiddenN (R5.out.keep hlts.1 hlts.2.1.2 hlts.2.2.1.2 hlts.2.2.2.1 (fun k hk => b6.block k hk) b6.size); have B6 := hiddenN (B5.out.trans (b6.mono hlts.2.2.2.2)); have hQ6 := Nat.le_trans hQ5 b6.size; clear hd6 b6; have N6 := hiddenN (HNX.out w6 _ _ _ R6.out M2.out.lf))
        | (go_at_call 57; (with_reducible refine N6.out.mono ?_); rintro e w7 ⟨rfl, b7⟩; have R7 := hiddenN (R6.out.below b7); have C7 := hiddenN (C6.out.later b7); have B7 := hiddenN (B6.out.trans (b7.mono R6.out.lts.2.2.2.2)); have hQ7 := Nat.le_trans hQ6 b7.size; clear b7))
      go_roundg f2
      case measure => omega
      case rel => exact ⟨Z ++ [(v : Int)], _, _, _, d6, c6, m1 + 1, _, by simp, rfl, rfl, R7.out, C7.out, B7.out, hQ7, M2.out⟩
def netB1 : NN := ⟨2, [⟨0, 1, 2, 3, 0⟩]⟩
theorem wakeB1 : checkN netB1 = 0 ∧ vdB netB1 = 1 ∧ rpB netB1 = [3, 2] ∧ cyB netB1 = [] := by decide +kernel
theorem solveB1 (U : World) (d : Option Addr) (cc : Nat) (h : AtN U d netB1.arcs) : Calls Tryz.prog 6 #[.agg #[.int .i64 2, .slice d 1 cc]] U fun e w' => ∃ d1 c1 d2 c2, e = .returned (.tuple #[.agg #[.int .u8 1, .slice d1 2 c1, .slice d2 0 c2], .int .i64 0]) ∧ At w' d1 [3, 2] ∧ Below U.heap.size U w' :=
  (solve_any netB1 d cc U h (by decide)).mono fun e w' q => by
    obtain ⟨d1, c1, d2, c2, h1, h2, h3, h4⟩ := q
    rw [wakeB1.1, wakeB1.2.1, wakeB1.2.2.1, wakeB1.2.2.2] at h1
    rw [wakeB1.2.2.1] at h2
    exact ⟨d1, c1, d2, c2, h1, h2.at, h4⟩
theorem solve_big {n : NN} (hc : checkN n = 0) (hb : bigA n = true) (a : Option Addr) (c : Nat) (w : World) (h : AtN w a n.arcs) (hl : n.arcs.length ≤ 4611686018427387904) : Calls Tryz.prog 6 #[.agg #[.int .i64 n.nodes, .slice a n.arcs.length c]] w fun e w' => ∃ d1 c1 d2 c2, e = .returned (.tuple #[.agg #[.int .u8 3, .slice d1 0 c1, .slice d2 0 c2], .int .i64 0]) ∧ Below w.heap.size w w' :=
  (solve_any n a c w h hl).mono fun e w' q => by
    obtain ⟨d1, c1, d2, c2, h1, h2, h3, h4⟩ := q
    obtain ⟨v1, v2, v3⟩ := sol_big hc hb
    rw [v1, v2, v3, hc] at h1
    exact ⟨d1, c1, d2, c2, h1, h4⟩
theorem solve_odd {n : NN} {i : Nat} (hc : checkN n = 0) (hb : bigA n = false) (hf : fuB n.arcs (cnt n) = some i) (a : Option Addr) (c : Nat) (w : World) (h : AtN w a n.arcs) (hl : n.arcs.length ≤ 4611686018427387904) : Calls Tryz.prog 6 #[.agg #[.int .i64 n.nodes, .slice a n.arcs.length c]] w fun e w' => ∃ d1 c1 d2 c2, e = .returned (.tuple #[.agg #[.int .u8 2, .slice d1 0 c1, .slice d2 (cycB n i).length c2], .int .i64 0]) ∧ CapS w.heap.size w' d2 c2 (cycB n i) ∧ Below w.heap.size w w' :=
  (solve_any n a c w h hl).mono fun e w' q => by
    obtain ⟨d1, c1, d2, c2, h1, h2, h3, h4⟩ := q
    obtain ⟨v1, v2, v3⟩ := sol_odd hc hb hf
    rw [v1, v2, v3, hc] at h1
    rw [v3] at h3
    exact ⟨d1, c1, d2, c2, h1, h3, h4⟩
theorem solve_even {n : NN} (hc : checkN n = 0) (hb : bigA n = false) (hf : fuB n.arcs (cnt n) = none) (a : Option Addr) (c : Nat) (w : World) (h : AtN w a n.arcs) (hl : n.arcs.length ≤ 4611686018427387904) : Calls Tryz.prog 6 #[.agg #[.int .i64 n.nodes, .slice a n.arcs.length c]] w fun e w' => ∃ d1 c1 d2 c2, e = .returned (.tuple #[.agg #[.int .u8 1, .slice d1 n.nodes.toNat c1, .slice d2 0 c2], .int .i64 0]) ∧ CapR w.heap.size w' d1 c1 (rowF n.nodes.toNat (cnt n)) ∧ Below w.heap.size w w' :=
  (solve_any n a c w h hl).mono fun e w' q => by
    obtain ⟨d1, c1, d2, c2, h1, h2, h3, h4⟩ := q
    obtain ⟨v1, v2, v3⟩ := sol_even hc hb hf
    rw [v1, v2, v3, hc, rowF_len] at h1
    rw [v2] at h2
    exact ⟨d1, c1, d2, c2, h1, h2, h4⟩
set_option maxRecDepth 100000 in
set_option maxHeartbeats 8000000 in
theorem isCycle_any (A : List NA) (m : Int) (a : Option Addr) (c : Nat) (L : List (Int × Bool)) (la : Option Addr) (lc : Nat) (w : World) (ha : AtN w a A) (hl : AtT w la L) (hN : L.length ≤ 4611686018427387904) (hcap : L.length ≤ lc) :
    Calls Tryz.prog 23 #[.agg #[.int .i64 m, .slice a A.length c], .slice la L.length lc] w fun e w' => e = .returned (.bool (cycW A L)) ∧ Below w.heap.size w w' := by
  have b0 := (Below.refl w.heap.size w).alloc (Nat.le_refl _) (.cells #[.int .i64 m, .slice a A.length c] 30)
  have X0 := hiddenN (blkA_new 30 w #[.int .i64 m, .slice a A.length c])
  have B0 := hiddenN b0
  have HA := hiddenN (ha.below b0)
  have HL := hiddenN (hl.below b0)
  have y0 := X0.out.cell (k := 0) rfl
  have y1 := X0.out.cell (k := 1) rfl
  simp only [List.getElem_toArray, List.getElem_cons_zero, List.getElem_cons_succ] at y0 y1
  clear b0 ha hl
  unfold cycW
  by_cases h0 : 0 < L.length
  · have AN : Hid (∀ U, Below (w.alloc (.cells #[.int .i64 m, .slice a A.length c] 30)).heap.size (w.alloc (.cells #[.int .i64 m, .slice a A.length c] 30)) U → Calls Tryz.prog 47 #[.agg #[.int .i64 m, .slice a A.length c], .slice la L.length lc] U fun e w' => e = .returned (.bool (nmW A L)) ∧ Below U.heap.size U w') := fun U hU => allNamed_any A m a c L la lc U (HA.out.below hU) (HL.out.below hU) hN
    cases h1 : nmW A L with
    | false =>
      rw [h1] at AN
      obtain ⟨N, hLN⟩ : ∃ N, L.length = N := ⟨_, rfl⟩
      rw [hLN] at AN h0 ⊢
      have hi : (0 : Int) < (N : Int) := by omega
      go_enter Tryz.func23, Tryz.ntmps23
      go_upto_region 1 with fail
      generalize w.alloc (.cells #[.int .i64 m, .slice a A.length c] 30) = W0 at *
      go_wp2_with (go_at_call 47; (with_reducible refine (AN.out W0 (Below.refl _ _)).mono ?_); rintro e V1 ⟨rfl, q1⟩; have L1 := hiddenN q1; clear q1)
      go_ret
      exact ⟨by simp; try rfl, B0.out.trans (L1.out.mono B0.out.size)⟩
    | true =>
      have LH : Hid (∀ U, Below (w.alloc (.cells #[.int .i64 m, .slice a A.length c] 30)).heap.size (w.alloc (.cells #[.int .i64 m, .slice a A.length c] 30)) U → Calls Tryz.prog 48 #[.agg #[.int .i64 m, .slice a A.length c], .slice la L.length lc] U fun e w' => e = .returned (.bool (hmW A L)) ∧ Below U.heap.size U w') := fun U hU => leadHome_any A m a c L la lc U (HA.out.below hU) (HL.out.below hU) hN h0 h1
      have TW : Hid (∀ U, Below (w.alloc (.cells #[.int .i64 m, .slice a A.length c] 30)).heap.size (w.alloc (.cells #[.int .i64 m, .slice a A.length c] 30)) U → Calls Tryz.prog 49 #[.agg #[.int .i64 m, .slice a A.length c], .slice la L.length lc] U fun e w' => e = .returned (.bool (twW A L)) ∧ Below U.heap.size U w') := fun U hU => anyTwice_any A m a c L la lc U (HA.out.below hU) (HL.out.below hU) hN hcap h1
      rw [h1] at AN
      obtain ⟨N, hLN⟩ : ∃ N, L.length = N := ⟨_, rfl⟩
      rw [hLN] at AN LH TW h0 ⊢
      have hi : (0 : Int) < (N : Int) := by omega
      cases h2 : hmW A L with
      | false =>
        rw [h2] at LH
        go_enter Tryz.func23, Tryz.ntmps23
        go_upto_region 1 with fail
        generalize w.alloc (.cells #[.int .i64 m, .slice a A.length c] 30) = W0 at *
        go_wp2_with (first
          | (go_at_call 47; (with_reducible refine (AN.out W0 (Below.refl _ _)).mono ?_); rintro e V1 ⟨rfl, q1⟩; have L1 := hiddenN q1; clear q1; have y0 := (X0.out.below L1.out).cell (k := 0) rfl; have y1 := (X0.out.below L1.out).cell (k := 1) rfl; simp only [List.getElem_toArray, List.getElem_cons_zero, List.getElem_cons_succ] at y0 y1)
          | (go_at_call 48; (with_reducible refine (LH.out V1 L1.out).mono ?_); rintro e V2 ⟨rfl, q2⟩; have L2 := hiddenN ((L1.out).trans (q2.mono (L1.out).size)); clear q2))
        go_ret
        exact ⟨by simp; try rfl, B0.out.trans (L2.out.mono B0.out.size)⟩
      | true =>
        rw [h2] at LH
        obtain ⟨tw, htw⟩ : ∃ b, twW A L = b := ⟨_, rfl⟩
        rw [htw] at TW ⊢
        go_enter Tryz.func23, Tryz.ntmps23
        go_upto_region 1 with fail
        generalize w.alloc (.cells #[.int .i64 m, .slice a A.length c] 30) = W0 at *
        go_wp2_with (first
          | (go_at_call 47; (with_reducible refine (AN.out W0 (Below.refl _ _)).mono ?_); rintro e V1 ⟨rfl, q1⟩; have L1 := hiddenN q1; clear q1; have y0 := (X0.out.below L1.out).cell (k := 0) rfl; have y1 := (X0.out.below L1.out).cell (k := 1) rfl; simp only [List.getElem_toArray, List.getElem_cons_zero, List.getElem_cons_succ] at y0 y1)
          | (go_at_call 48; (with_reducible refine (LH.out V1 L1.out).mono ?_); rintro e V2 ⟨rfl, q2⟩; have L2 := hiddenN ((L1.out).trans (q2.mono (L1.out).size)); clear q2; have y0 := (X0.out.below L2.out).cell (k := 0) rfl; have y1 := (X0.out.below L2.out).cell (k := 1) rfl; simp only [List.getElem_toArray, List.getElem_cons_zero, List.getElem_cons_succ] at y0 y1)
          | (go_at_call 49; (with_reducible refine (TW.out V2 L2.out).mono ?_); rintro e V3 ⟨rfl, q3⟩; have L3 := hiddenN ((L2.out).trans (q3.mono (L2.out).size)); clear q3))
        go_ret
        exact ⟨by simp [h0]; try rfl, B0.out.trans (L3.out.mono B0.out.size)⟩
  · obtain ⟨N, hLN⟩ : ∃ N, L.length = N := ⟨_, rfl⟩
    rw [hLN] at h0 ⊢
    have hi : ¬ (0 : Int) < (N : Int) := by omega
    go_enter Tryz.func23, Tryz.ntmps23
    go_wp2
    go_ret
    exact ⟨by simp, B0.out⟩
theorem posB_of : ∀ {zs : List Int}, (∀ z, z ∈ zs → 1 ≤ z) → posB zs = true
  | [], _ => rfl
  | z :: zs, h => by
    unfold posB
    have h1 := h z (List.mem_cons_self ..)
    have h2 := posB_of fun y hy => h y (List.mem_cons_of_mem _ hy)
    simp [h2]
    omega
theorem inR_of {zs : List Int} (h : ∀ z, z ∈ zs → 0 ≤ z ∧ z ≤ 1000) : InR zs := by
  intro k
  unfold nth
  rw [List.getD_eq_getElem?_getD]
  by_cases hk : k < zs.length
  · rw [List.getElem?_eq_getElem hk]
    have := h _ (List.getElem_mem hk)
    simp only [Option.getD_some]
    omega
  · rw [List.getElem?_eq_none (by omega)]
    decide
theorem SoundN.taken {n : NN} (h : SoundN n) {x : Int × Bool} (hx : inW n.arcs x = true) : (1 ≤ (tkW n.arcs x).g ∧ (tkW n.arcs x).g ≤ 64) ∧ (1 ≤ (tkW n.arcs x).k ∧ (tkW n.arcs x).k ≤ 64) ∧ (0 ≤ stW n.arcs x ∧ stW n.arcs x < n.nodes) ∧ (0 ≤ enW n.arcs x ∧ enW n.arcs x < n.nodes) := by
  obtain ⟨h1, h2⟩ := inW_iff.1 hx
  have hs := h.arcs x.1.toNat (by omega)
  unfold stW enW tkW
  split
  · exact ⟨hs.k, hs.g, hs.t, hs.f⟩
  · exact ⟨hs.g, hs.k, hs.f, hs.t⟩
theorem SoundN.rates {n : NN} (h : SoundN n) {L : List (Int × Bool)} (hm : nmW n.arcs L = true) : (∀ z, z ∈ gvW n.arcs L → 1 ≤ z ∧ z ≤ 64) ∧ (∀ z, z ∈ kpW n.arcs L → 1 ≤ z ∧ z ≤ 64) := by
  constructor
  · intro z hz
    obtain ⟨x, hx, rfl⟩ := List.mem_map.1 hz
    exact (h.taken (nm_iff.1 hm x hx)).1
  · intro z hz
    obtain ⟨x, hx, rfl⟩ := List.mem_map.1 hz
    exact (h.taken (nm_iff.1 hm x hx)).2.1
theorem cyc_named {A : List NA} {L : List (Int × Bool)} (h : cycW A L = true) : nmW A L = true := nm_iff.2 (cyc_iff.1 h).named
theorem rates_eq {n : NN} (h : SoundN n) {L : List (Int × Bool)} (hm : nmW n.arcs L = true) (hl : L.length ≤ 1000) : cE (gvW n.arcs L) (kpW n.arcs L) = 0 ∧ eqB (gvW n.arcs L) (kpW n.arcs L) = alW n.arcs L ∧ InR (gvW n.arcs L) ∧ InR (kpW n.arcs L) := by
  obtain ⟨r1, r2⟩ := h.rates hm
  have e : cE (gvW n.arcs L) (kpW n.arcs L) = 0 := cE_ok (by rw [gv_len]; omega) (by rw [kp_len]; omega) (by rw [posB_of fun z hz => (r1 z hz).1, posB_of fun z hz => (r2 z hz).1]; rfl)
  refine ⟨e, ?_, inR_of fun z hz => ?_, inR_of fun z hz => ?_⟩
  · unfold eqB alW
    rw [decide_eq_true e, Bool.true_and]
  · have := r1 z hz; omega
  · have := r2 z hz; omega
set_option maxRecDepth 100000 in
set_option maxHeartbeats 8000000 in
theorem confirm_any (n : NN) (a : Option Addr) (c : Nat) (L : List (Int × Bool)) (la : Option Addr) (lc : Nat) (w : World) (ha : AtN w a n.arcs) (hln : n.arcs.length ≤ 4611686018427387904) (hl : AtT w la L) (hN : L.length ≤ 4611686018427387904) (hcap : L.length ≤ lc) :
    Calls Tryz.prog 7 #[.agg #[.int .i64 n.nodes, .slice a n.arcs.length c], .slice la L.length lc] w fun e w' => e = .returned (.int .i64 (conW n L)) ∧ Below w.heap.size w w' := by
  have b0 := (Below.refl w.heap.size w).alloc (Nat.le_refl _) (.cells #[.int .i64 n.nodes, .slice a n.arcs.length c] 30)
  have X0 := hiddenN (blkA_new 30 w #[.int .i64 n.nodes, .slice a n.arcs.length c])
  have B0 := hiddenN b0
  have HA := hiddenN (ha.below b0)
  have HL := hiddenN (hl.below b0)
  have CH := hiddenN (checkN_any n a c _ (ha.below b0) hln)
  have IC : Hid (∀ U, Below (w.alloc (.cells #[.int .i64 n.nodes, .slice a n.arcs.length c] 30)).heap.size (w.alloc (.cells #[.int .i64 n.nodes, .slice a n.arcs.length c] 30)) U → Calls Tryz.prog 23 #[.agg #[.int .i64 n.nodes, .slice a n.arcs.length c], .slice la L.length lc] U fun e w' => e = .returned (.bool (cycW n.arcs L)) ∧ Below U.heap.size U w') := fun U hU => isCycle_any n.arcs n.nodes a c L la lc U (HA.out.below hU) (HL.out.below hU) hN hcap
  have y0 := X0.out.cell (k := 0) rfl
  have y1 := X0.out.cell (k := 1) rfl
  simp only [List.getElem_toArray, List.getElem_cons_zero, List.getElem_cons_succ] at y0 y1
  clear b0 ha hl
  obtain ⟨E, hE⟩ : ∃ E, conW n L = E := ⟨_, rfl⟩
  rw [hE]
  unfold conW at hE
  by_cases hc : checkN n = 0
  · rw [if_pos hc] at hE
    rw [hc] at CH
    cases h1 : cycW n.arcs L with
    | false =>
      rw [h1] at IC hE
      simp only [Bool.false_eq_true, if_false] at hE
      subst hE
      generalize L.length = N at *
      go_enter Tryz.func7, Tryz.ntmps7
      go_upto_region 1 with fail
      generalize w.alloc (.cells #[.int .i64 n.nodes, .slice a n.arcs.length c] 30) = W0 at *
      go_wp2_with (first
        | (go_at_call 22; (with_reducible refine CH.out.mono ?_); rintro e V1 ⟨rfl, q1⟩; have L1 := hiddenN q1; clear q1; have y0 := (X0.out.below L1.out).cell (k := 0) rfl; have y1 := (X0.out.below L1.out).cell (k := 1) rfl; simp only [List.getElem_toArray, List.getElem_cons_zero, List.getElem_cons_succ] at y0 y1)
        | (go_at_call 23; (with_reducible refine (IC.out V1 L1.out).mono ?_); rintro e V2 ⟨rfl, q2⟩; have L2 := hiddenN (L1.out.trans (q2.mono L1.out.size)); clear q2; have y0 := (X0.out.below L2.out).cell (k := 0) rfl; have y1 := (X0.out.below L2.out).cell (k := 1) rfl; simp only [List.getElem_toArray, List.getElem_cons_zero, List.getElem_cons_succ] at y0 y1))
      go_ret
      exact ⟨rfl, B0.out.trans (L2.out.mono B0.out.size)⟩
    | true =>
      have hS := check_sound hc
      have hlen : L.length ≤ 1000 := by have := (cyc_iff.1 h1).few; have := hS.most; omega
      obtain ⟨r0, r1, r2, r3⟩ := rates_eq hS (cyc_named h1) hlen
      have RA : Hid (∀ U, Below (w.alloc (.cells #[.int .i64 n.nodes, .slice a n.arcs.length c] 30)).heap.size (w.alloc (.cells #[.int .i64 n.nodes, .slice a n.arcs.length c] 30)) U → Calls Tryz.prog 24 #[.agg #[.int .i64 n.nodes, .slice a n.arcs.length c], .slice la L.length lc] U (RatE U (gvW n.arcs L) (kpW n.arcs L))) := fun U hU => ratesW_any n.arcs n.nodes a c L la lc U (HA.out.below hU) (HL.out.below hU) hlen (cyc_named h1)
      have EQ : Hid (∀ U d1 c1 d2 c2, At U d1 (gvW n.arcs L) → At U d2 (kpW n.arcs L) → Calls Tryz.prog 25 #[.slice d1 (gvW n.arcs L).length c1, .slice d2 (kpW n.arcs L).length c2] U fun e w' => e = .returned (.tuple #[.bool (alW n.arcs L), .int .i64 0]) ∧ Below U.heap.size U w') := fun U d1 c1 d2 c2 g1 g2 => by
        have q := equal_any d1 d2 (gvW n.arcs L) (kpW n.arcs L) _ c1 _ c2 U rfl rfl (by rw [gv_len]; omega) (by rw [kp_len]; omega) r2 r3 g1 g2
        unfold EqEnd at q
        rw [r0, r1] at q
        exact q
      unfold RatE at RA
      rw [h1] at IC hE
      simp only [if_true] at hE
      clear hS r0 r1 r2 r3 hc h1
      generalize gvW n.arcs L = xs at *
      generalize kpW n.arcs L = ys at *
      cases h2 : alW n.arcs L with
      | false =>
        rw [h2] at EQ hE
        simp only [Bool.false_eq_true, if_false] at hE
        subst hE
        generalize L.length = N at *
        go_enter Tryz.func7, Tryz.ntmps7
        go_upto_region 1 with fail
        generalize w.alloc (.cells #[.int .i64 n.nodes, .slice a n.arcs.length c] 30) = W0 at *
        go_wp2_with (first
          | (go_at_call 22; (with_reducible refine CH.out.mono ?_); rintro e V1 ⟨rfl, q1⟩; have L1 := hiddenN q1; clear q1; have y0 := (X0.out.below L1.out).cell (k := 0) rfl; have y1 := (X0.out.below L1.out).cell (k := 1) rfl; simp only [List.getElem_toArray, List.getElem_cons_zero, List.getElem_cons_succ] at y0 y1)
          | (go_at_call 23; (with_reducible refine (IC.out V1 L1.out).mono ?_); rintro e V2 ⟨rfl, q2⟩; have L2 := hiddenN (L1.out.trans (q2.mono L1.out.size)); clear q2; have y0 := (X0.out.below L2.out).cell (k := 0) rfl; have y1 := (X0.out.below L2.out).cell (k := 1) rfl; simp only [List.getElem_toArray, List.getElem_cons_zero, List.getElem_cons_succ] at y0 y1)
          | (go_at_call 24; (with_reducible refine (RA.out V2 L2.out).mono ?_); rintro e V3 ⟨d1, c1, d2, c2, rfl, q3, q4⟩; have R1 := hiddenN q3.r1.at; have R2 := hiddenN q3.r2.at; have L3 := hiddenN (L2.out.trans (q4.mono L2.out.size)); clear q3 q4)
          | (go_at_call 25; (with_reducible refine (EQ.out V3 d1 c1 d2 c2 R1.out R2.out).mono ?_); rintro e V4 ⟨rfl, q4⟩; have L4 := hiddenN (L3.out.trans (q4.mono L3.out.size)); clear q4))
        go_ret
        exact ⟨rfl, B0.out.trans (L4.out.mono B0.out.size)⟩
      | true =>
        rw [h2] at EQ hE
        simp only [if_true] at hE
        subst hE
        generalize L.length = N at *
        go_enter Tryz.func7, Tryz.ntmps7
        go_upto_region 1 with fail
        generalize w.alloc (.cells #[.int .i64 n.nodes, .slice a n.arcs.length c] 30) = W0 at *
        go_wp2_with (first
          | (go_at_call 22; (with_reducible refine CH.out.mono ?_); rintro e V1 ⟨rfl, q1⟩; have L1 := hiddenN q1; clear q1; have y0 := (X0.out.below L1.out).cell (k := 0) rfl; have y1 := (X0.out.below L1.out).cell (k := 1) rfl; simp only [List.getElem_toArray, List.getElem_cons_zero, List.getElem_cons_succ] at y0 y1)
          | (go_at_call 23; (with_reducible refine (IC.out V1 L1.out).mono ?_); rintro e V2 ⟨rfl, q2⟩; have L2 := hiddenN (L1.out.trans (q2.mono L1.out.size)); clear q2; have y0 := (X0.out.below L2.out).cell (k := 0) rfl; have y1 := (X0.out.below L2.out).cell (k := 1) rfl; simp only [List.getElem_toArray, List.getElem_cons_zero, List.getElem_cons_succ] at y0 y1)
          | (go_at_call 24; (with_reducible refine (RA.out V2 L2.out).mono ?_); rintro e V3 ⟨d1, c1, d2, c2, rfl, q3, q4⟩; have R1 := hiddenN q3.r1.at; have R2 := hiddenN q3.r2.at; have L3 := hiddenN (L2.out.trans (q4.mono L2.out.size)); clear q3 q4)
          | (go_at_call 25; (with_reducible refine (EQ.out V3 d1 c1 d2 c2 R1.out R2.out).mono ?_); rintro e V4 ⟨rfl, q4⟩; have L4 := hiddenN (L3.out.trans (q4.mono L3.out.size)); clear q4))
        go_ret
        exact ⟨rfl, B0.out.trans (L4.out.mono B0.out.size)⟩
  · rw [if_neg hc] at hE
    have hne : (checkN n != 0) = true := by simpa using hc
    rw [hE] at CH hne
    clear hE hc
    generalize L.length = N at *
    go_enter Tryz.func7, Tryz.ntmps7
    go_upto_region 1 with fail
    generalize w.alloc (.cells #[.int .i64 n.nodes, .slice a n.arcs.length c] 30) = W0 at *
    go_wp2_with (go_at_call 22; (with_reducible refine CH.out.mono ?_); rintro e V1 ⟨rfl, q1⟩; have L1 := hiddenN q1; clear q1; have y0 := (X0.out.below L1.out).cell (k := 0) rfl; have y1 := (X0.out.below L1.out).cell (k := 1) rfl; simp only [List.getElem_toArray, List.getElem_cons_zero, List.getElem_cons_succ] at y0 y1)
    go_ret
    exact ⟨rfl, B0.out.trans (L1.out.mono B0.out.size)⟩
theorem path_of {n : NN} {i : Nat} (hc : checkN n = 0) (hi : i < n.arcs.length) : ∃ P, cycB n i = (i, false) :: P ∧ WaF n.arcs (treF n.arcs n.arcs.length) (tN n.arcs i) P (fN n.arcs i) ∧ NbF none P := by
  have hS := check_sound hc
  have SB := hS.souB
  obtain ⟨e1, e2, -, -, l1, l2, -⟩ := SB.ends i hi
  have hN := hS.nodes
  have TL := tree_lt hS
  have hne : dfsF n.arcs (treF n.arcs n.arcs.length) (fN n.arcs i) (n.nodes.toNat + 1) (tN n.arcs i) none ≠ none := (dfs_home (fun j hj => (TL j hj).1) (fun j hj => (TL j hj).2) (tN n.arcs i) (fN n.arcs i)).2 ((forF n.arcs n.arcs.length).ends i hi).symm
  cases q : dfsF n.arcs (treF n.arcs n.arcs.length) (fN n.arcs i) (n.nodes.toNat + 1) (tN n.arcs i) none with
  | none => exact absurd q hne
  | some P =>
    obtain ⟨p1, p2⟩ := dfsF_sound q
    refine ⟨P, ?_, p1, p2⟩
    have eP : (pathP n (nthNa n.arcs i).t (nthNa n.arcs i).f).1 = P := by
      unfold pathP
      rw [if_pos hc, if_pos ⟨by unfold nodB; simp; omega, by unfold nodB; simp; omega⟩]
      unfold pathD
      rw [e1, e2, Int.toNat_natCast, Int.toNat_natCast, q]
    unfold cycB
    rw [eP]
theorem odd_con {n : NN} {i : Nat} (hc : checkN n = 0) (hf : fuB n.arcs (cnt n) = some i) : conW n (toW (cycB n i)) = 0 := by
  obtain ⟨hi, hne, -⟩ := fuB_some hf
  have SB := (check_sound hc).souB
  obtain ⟨P, e, p1, p2⟩ := path_of hc hi
  rw [e]
  exact unlike_con hc SB.rat (fun j hj => ⟨(SB.ends j hj).1, (SB.ends j hj).2.1⟩) hi hne p1 p2
theorem AtS.toT {w : World} {a : Option Addr} {L : List (Nat × Bool)} (h : AtS w a L) : AtT w a (toW L) := by
  rcases h with h | ⟨b, off, e, hc⟩
  · exact .inl (by rw [h]; rfl)
  · refine .inr ⟨b, off, e, fun k hk => ?_⟩
    have hk' : k < L.length := by unfold toW at hk; simpa using hk
    have en : nthT (toW L) k = (((nthS L k).1 : Int), (nthS L k).2) := by
      unfold nthT nthS toW
      rw [List.getD_eq_getElem?_getD, List.getD_eq_getElem?_getD, List.getElem?_map, List.getElem?_eq_getElem hk']
      rfl
    rw [en]
    exact hc k hk'
theorem toW_len (L : List (Nat × Bool)) : (toW L).length = L.length := by unfold toW; simp
theorem cyc_len (n : NN) (i : Nat) : (cycB n i).length ≤ 34 := by
  have := pathP_len n (nthNa n.arcs i).t (nthNa n.arcs i).f
  unfold cycB
  simp
  omega
/-- The least counts hold. -/
theorem ho_least {n : NN} (hc : checkN n = 0) (hb : bigA n = false) (hf : fuB n.arcs (cnt n) = none) : hoB n (rowF n.nodes.toNat (cnt n)) = true ∧ hoE n (rowF n.nodes.toNat (cnt n)) = 0 := by
  have hS := check_sound hc
  have SB := hS.souB
  have hN := hS.nodes
  have hw : winB (rowF n.nodes.toNat (cnt n)) = true := by
    show winB (rowF n.nodes.toNat (cntB n.arcs n.arcs.length)) = true
    rw [win_row fun v => cntB_pos SB.rat (Nat.le_refl _) v]
    have : bigN (cntB n.arcs n.arcs.length) n.nodes.toNat = false := hb
    rw [this]
    rfl
  obtain ⟨e1, e2⟩ := ho_fu (R := rowF n.nodes.toNat (cnt n)) hc (by rw [rowF_len]; omega) hw
  refine ⟨?_, e2⟩
  rw [e1]
  have : fuB n.arcs (natB (rowF n.nodes.toNat (cnt n))) = none := fuB_none fun j hj => by
    obtain ⟨q1, q2⟩ := SB.arc j hj
    have q := fuB_all hf j hj
    unfold EvB at q ⊢
    have k : ∀ v, v < n.nodes.toNat → natB (rowF n.nodes.toNat (cnt n)) v = cnt n v := fun v hv => by
      unfold natB
      rw [rowF_nth hv]
      rfl
    rw [k _ q1, k _ q2]
    exact q
  rw [this]
  rfl
end Go.Proofs.YtmnbapcbailcbaaGreat

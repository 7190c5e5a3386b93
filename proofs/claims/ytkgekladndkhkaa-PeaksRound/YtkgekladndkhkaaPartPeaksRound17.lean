/- Texts of one chain, laid one behind the other. -/
import Derived.Test.YtkgekladndkhkaaPartPeaksRound16
namespace Go.Proofs.Ytkgekladndkhkaa
open Go.ChangeShapes Go.WideShapes Go.ChangeAt Go.RowKit
/-- How Along ends where it goes through: rows, with room for them. -/
def AlgE (R : List (List Int)) (m : Nat) (U : World) (e : Ending) (w' : World) : Prop := ∃ b off rc, e = .returned (.tuple #[.slice (some ⟨b, off, none⟩) m rc, .int .i64 0]) ∧ m ≤ rc ∧ (∀ k, k < m → ∃ y yc, w'.cell? ⟨b, off + k, none⟩ = some (.slice y (nthLV R k).length yc) ∧ At w' y (nthLV R k)) ∧ Below U.heap.size U w'
theorem alongG (n : NN) {zs : List Int} (hc : codeV n zs = 0) (U : World) (x : Addr) (y : Option Addr) (cx cy : Nat) (q1 : AtN U (some x) n.arcs) (hroom : n.arcs.length ≤ 4611686018427387904) (q2 : At U y zs) (hzl : zs.length ≤ 4611686018427387904) :
    Calls Try.prog 11 #[.agg #[.int .i64 n.nodes, .slice (some x) n.arcs.length cx], .slice y zs.length cy] U (AlgE (rowsV n (startT n) zs) (zs.length + 1) U) := (along_any n (some x) cx U q1 hroom (fun e => by cases e) y cy zs q2 hzl).mono fun e w' hh => by
  rcases hh with ⟨-, B, v, e1, -, -, ⟨A, C, q1⟩, q2⟩ | ⟨k1, -⟩
  · obtain ⟨x, rc, rfl⟩ := tabG_shapeV q1
    have q3 := q1.out.tab
    have hr := q1.row
    rw [rows_len] at e1
    rcases q3 with q3 | ⟨g, rfl, -, -, h3, -⟩
    · exact absurd q3 (rows_ne _ _ _)
    · refine ⟨g, 0, rc, e1, ?_, fun k hk => ?_, q2⟩
      · rcases hr.2 with ⟨h, -⟩ | ⟨g', cap, cur, hv, -, -, hc', -⟩
        · cases h
        · cases hv; rw [rows_len] at hc'; exact hc'
      · have hk' : k < (rowsV n (startT n) zs).length := by rw [rows_len]; exact hk
        exact ⟨A k, C k, by rw [Nat.zero_add]; exact h3 k hk', (q1.rows k hk').at⟩
  · exact absurd hc k1
theorem code_take {n : NN} {zs : List Int} (hc : codeV n zs = 0) (k : Nat) : codeV n (zs.take k) = 0 := by
  obtain ⟨h1, h2, h3⟩ := code_zero hc
  rw [code_err h1 (by rw [List.length_take]; omega), err_take n zs _ k h3]
  rfl
theorem inR_takeV {zs : List Int} (h : InR zs) (k : Nat) : InR (zs.take k) := fun j => by
  by_cases e : j < k
  · rw [nth_take e]; exact h j
  · have q : nth (zs.take k) j = 0 := by
      unfold nth
      rw [List.getD_eq_getElem?_getD, List.getElem?_eq_none (by rw [List.length_take]; omega)]
      rfl
    rw [q]
    decide
theorem arg_take {w : World} {a : Option Addr} {cap k : Nat} {zs : List Int} (h : Arg w a zs.length cap zs) (hk : k ≤ zs.length) : Arg w a k cap (zs.take k) := by
  have hz : zs.take k ++ zs.drop k = zs := List.take_append_drop k zs
  refine ⟨by rw [List.length_take]; omega, by have := h.reach; omega, fun e => ⟨by have := (h.none e).1; omega, (h.none e).2⟩, ?_, At.prefix (ts := zs.drop k) (by rw [hz]; exact h.lies), Nat.le_trans hk h.room⟩
  exact inR_takeV h.fits k
theorem lsV_cut {w : World} {b off rc' m : Nat} {R : List (List Int)} (h : ∀ k, k < m → ∃ y yc, w.cell? ⟨b, off + k, none⟩ = some (.slice y (nthLV R k).length yc) ∧ At w y (nthLV R k)) {p q : Nat} (hpq : p + q ≤ m) (hm : m ≤ R.length) : LsV w (.slice (some ⟨b, off + p, none⟩) q rc') ((R.drop p).take q) := by
  have hl : ((R.drop p).take q).length = q := by rw [List.length_take, List.length_drop]; omega
  refine ⟨some ⟨b, off + p, none⟩, rc', by rw [hl], .inr ⟨b, off + p, rfl, fun k hk => ?_⟩⟩
  rw [hl] at hk
  obtain ⟨y, yc, h1, h2⟩ := h (p + k) (by omega)
  have e : nthLV ((R.drop p).take q) k = nthLV R (p + k) := by
    unfold nthLV
    rw [List.getD_eq_getElem?_getD, List.getD_eq_getElem?_getD, List.getElem?_take_of_lt hk, List.getElem?_drop]
  rw [e, Nat.add_assoc]
  exact ⟨y, yc, h1, h2⟩
theorem lsV_all {w : World} {b off rc' m : Nat} {R : List (List Int)} (h : ∀ k, k < m → ∃ y yc, w.cell? ⟨b, off + k, none⟩ = some (.slice y (nthLV R k).length yc) ∧ At w y (nthLV R k)) (hm : R.length = m) : LsV w (.slice (some ⟨b, off, none⟩) m rc') R := by
  have q := lsV_cut (rc' := rc') h (p := 0) (q := m) (by omega) (by omega)
  rw [List.drop_zero, List.take_of_length_le (by omega)] at q
  exact q
theorem lsV_pre {w : World} {b off rc' m q : Nat} {R : List (List Int)} (h : ∀ k, k < m → ∃ y yc, w.cell? ⟨b, off + k, none⟩ = some (.slice y (nthLV R k).length yc) ∧ At w y (nthLV R k)) (hq : q ≤ m) (hm : m ≤ R.length) : LsV w (.slice (some ⟨b, off, none⟩) q rc') (R.take q) := by
  have q := lsV_cut (rc' := rc') h (p := 0) (q := q) (by omega) hm
  rw [List.drop_zero] at q
  exact q
theorem wrapK {k : Nat} (h : k ≤ 1000000) : IntKind.i64.wrap ((k : Int) + 1) = (k : Int) + 1 ∧ wrap64 ((k : Int) + 1) = (k : Int) + 1 := ⟨by rw [IntKind.wrap_i64]; omega, wrap64_id (by omega)⟩
theorem wrap2 {k m : Nat} (hm : k + k = m) (h : k ≤ 1000000) : IntKind.i64.wrap (2 * (k : Int)) = (m : Int) ∧ wrap64 (2 * (k : Int)) = (m : Int) := by
  have e : 2 * (k : Int) = (m : Int) := by omega
  rw [e]
  exact ⟨by rw [IntKind.wrap_i64]; omega, wrap64_id (by omega)⟩
theorem code_twice {n : NN} {zs : List Int} (hc : codeV n zs = 0) (hl : zs.length ≤ 1024) (hh : endV n (startT n) zs = startT n) : codeV n (zs ++ zs) = 0 := by
  obtain ⟨h1, h2, h3⟩ := code_zero hc
  rw [code_err h1 (by rw [List.length_append]; omega), err_twice n zs _ hh h3]
  rfl
theorem mostM_twice {n : NN} {zs : List Int} (hh : endV n (startT n) zs = startT n) : mostM n (zs ++ zs) = mostM n zs := by
  unfold mostM
  exact List.map_congr_left fun i _ => most_twice n zs _ hh i
/-- A lent net; a copied row; an answer of Along, as values. -/
def LnS (n : NN) (u : World) (z : Value) : Prop := ∃ g gc, z = .agg #[.int .i64 n.nodes, .slice (some ⟨g, 0, none⟩) n.arcs.length gc] ∧ AtN u (some ⟨g, 0, none⟩) n.arcs
theorem LnS.later {n : NN} {u u' : World} {z : Value} (h : LnS n u z) (hb : Below u.heap.size u u') : LnS n u' z := by
  obtain ⟨g, gc, h1, h2⟩ := h
  exact ⟨g, gc, h1, h2.below hb⟩
def RoS (R : List (List Int)) (m : Nat) (u : World) (z : Value) : Prop := ∃ b off rc, z = .slice (some ⟨b, off, none⟩) m rc ∧ ∀ k, k < m → ∃ y yc, u.cell? ⟨b, off + k, none⟩ = some (.slice y (nthLV R k).length yc) ∧ At u y (nthLV R k)
theorem RoS.later {R : List (List Int)} {m : Nat} {u u' : World} {z : Value} (h : RoS R m u z) (hb : Below u.heap.size u u') : RoS R m u' z := by
  obtain ⟨b, off, rc, h1, h2⟩ := h
  refine ⟨b, off, rc, h1, fun k hk => ?_⟩
  obtain ⟨y, yc, h3, h4⟩ := h2 k hk
  exact ⟨y, yc, cellN_later hb h3, h4.below hb⟩
def AnS (R : List (List Int)) (m : Nat) (u : World) (z : Value) : Prop := ∃ v, z = .tuple #[v, .int .i64 0] ∧ RoS R m u v
theorem AnS.later {R : List (List Int)} {m : Nat} {u u' : World} {z : Value} (h : AnS R m u z) (hb : Below u.heap.size u u') : AnS R m u' z := by
  obtain ⟨v, h1, h2⟩ := h
  exact ⟨v, h1, h2.later hb⟩
set_option maxRecDepth 100000 in
set_option maxHeartbeats 16000000 in
theorem peaksRound_walk (n : NN) (a : Option Addr) (c : Nat) (a1 : Option Addr) (len1 cap1 : Nat) (zs : List Int) (cut : Int) (w : World) (h : ArgN w a c n) (h1 : Arg w a1 len1 cap1 zs) (_ : -9223372036854775808 ≤ cut ∧ cut ≤ 9223372036854775807) : Calls Try.prog 8 #[.agg #[.int .i64 n.nodes, .slice a n.arcs.length c], .slice a1 len1 cap1, .int .i64 cut] w fun e w' => e = .returned (.bool true) ∧ Below w.heap.size w w' := by
  obtain rfl := h1.size
  have b0 := (Below.refl w.heap.size w).alloc (Nat.le_refl _) (.cells #[.int .i64 n.nodes, .slice a n.arcs.length c] 24)
  have G0 := hiddenN (blkA_new 24 w #[.int .i64 n.nodes, .slice a n.arcs.length c])
  have B0 := hiddenN b0
  have HA := hiddenN h
  have H1 := hiddenN h1
  have hroom : n.arcs.length ≤ 4611686018427387904 := by have := h.room; omega
  have hzl : zs.length ≤ 4611686018427387904 := by have := h1.reach; omega
  have LN : Hid (∀ U, Below w.heap.size w U → Calls Try.prog 9 #[.agg #[.int .i64 n.nodes, .slice a n.arcs.length c]] U (LentE n U)) := fun U hb => lentNet_any n a c U (HA.out.below hb)
  have AW : Hid (∀ U, Calls Try.prog 15 #[] U fun e w' => e = .returned (.bool true) ∧ Below U.heap.size U w') := fun U => awakeP U
  have z0 := G0.out.cell (k := 0) rfl
  have z1 := G0.out.cell (k := 1) rfl
  simp only [List.getElem_toArray, List.getElem_cons_zero, List.getElem_cons_succ] at z0 z1
  clear b0 h h1
  have IN : Hid (∀ U, Below w.heap.size w U → Calls Try.prog 23 #[.slice a1 zs.length cap1] U (CopiedC U zs.length zs)) := fun U hb => ints_own a1 zs zs.length cap1 U (H1.out.below hb)
  by_cases hc : codeV n zs = 0
  · obtain ⟨m1, hm1, hm0⟩ : ∃ m1 : Int, (if cut < 0 then (0 : Int) else cut) = m1 ∧ 0 ≤ m1 := ⟨_, rfl, by split <;> omega⟩
    obtain ⟨K0, hm2, hK0⟩ : ∃ K0 : Nat, (if (zs.length : Int) < m1 then (zs.length : Int) else m1) = (K0 : Int) ∧ K0 ≤ zs.length := by
      by_cases e : (zs.length : Int) < m1
      · exact ⟨zs.length, if_pos e, Nat.le_refl _⟩
      · exact ⟨m1.toNat, by rw [if_neg e]; omega, by omega⟩
    have hZ2 := (code_zero hc).2.1
    have hmost := (check_sound (code_zero hc).1).most
    have PA : Hid (∀ U x y cx cy, AtN U (some x) n.arcs → At U y zs → Calls Try.prog 11 #[.agg #[.int .i64 n.nodes, .slice (some x) n.arcs.length cx], .slice y zs.length cy] U (AlgE (rowsV n (startT n) zs) (zs.length + 1) U)) := fun U x y cx cy q1 q2 => alongG n hc U x y cx cy q1 hroom q2 hzl
    have PK : Hid (∀ U x y cx cy, AtN U (some x) n.arcs → At U y (zs.take K0) → Calls Try.prog 11 #[.agg #[.int .i64 n.nodes, .slice (some x) n.arcs.length cx], .slice y K0 cy] U (AlgE ((rowsV n (startT n) zs).take (K0 + 1)) (K0 + 1) U)) := fun U x y cx cy q1 q2 => by
      have hl : (zs.take K0).length = K0 := by rw [List.length_take]; omega
      have q := alongG n (code_take hc K0) U x y cx cy q1 hroom q2 (by omega)
      rw [hl, rows_take n zs _ K0 hK0] at q
      exact q
    have PH : Hid (∀ U x y cx cy, AtN U (some x) n.arcs → At U y zs → Calls Try.prog 21 #[.agg #[.int .i64 n.nodes, .slice (some x) n.arcs.length cx], .slice y zs.length cy] U fun e w' => e = .returned (.tuple #[.bool (homeB n zs), .int .i64 0]) ∧ Below U.heap.size U w') := fun U x y cx cy q1 q2 => by
      have q := home_anyV n (some x) cx U q1 hroom (fun e => by cases e) y cy zs q2 hzl
      rw [hc] at q
      exact q
    have IK : Hid (∀ U, Below w.heap.size w U → Calls Try.prog 23 #[.slice a1 K0 cap1] U (CopiedC U K0 (zs.take K0))) := fun U hb => ints_own a1 (zs.take K0) K0 cap1 U (arg_take (H1.out.below hb) hK0)
    have RL : Hid (∀ k, k ≤ zs.length → (nthLV (rowsV n (startT n) zs) k).length = n.arcs.length) := fun k hk => by rw [row_lenV hk, start_len]
    have RLN : Hid ((rowsV n (startT n) zs).length = zs.length + 1) := rows_len n zs _
    have hcap := H1.out.room
    have hK6 : K0 ≤ 1000000 := Nat.le_trans hK0 (Nat.le_trans hZ2 (by decide))
    have hZ6 : zs.length ≤ 1000000 := Nat.le_trans hZ2 (by decide)
    have w1 : IntKind.i64.wrap ((zs.length : Int) + 1) = (zs.length : Int) + 1 := (wrapK hZ6).1
    have w1' : wrap64 ((zs.length : Int) + 1) = (zs.length : Int) + 1 := (wrapK hZ6).2
    have q8 : ((zs.length : Int) + 1 != (zs.length : Int) + 1) = false := by simp
    have HLS : Hid (∀ k, k < (rowsV n (startT n) zs).length → (nthLV (rowsV n (startT n) zs) k).length ≤ 1000000) := fun k hk => by
      rw [RL.out k (by rw [RLN.out] at hk; exact Nat.le_of_lt_succ hk)]
      exact Nat.le_trans hmost (by decide)
    have HLK : Hid (∀ k, k < ((rowsV n (startT n) zs).take (K0 + 1)).length → (nthLV ((rowsV n (startT n) zs).take (K0 + 1)) k).length ≤ 1000000) := fun k hk => by
      rw [List.length_take] at hk
      have e : nthLV ((rowsV n (startT n) zs).take (K0 + 1)) k = nthLV (rowsV n (startT n) zs) k := by
        unfold nthLV
        rw [List.getD_eq_getElem?_getD, List.getD_eq_getElem?_getD, List.getElem?_take_of_lt (Nat.lt_of_lt_of_le hk (Nat.min_le_left _ _))]
      rw [e]
      exact HLS.out k (Nat.lt_of_lt_of_le hk (Nat.min_le_right _ _))
    have hK1 : K0 + 1 ≤ zs.length + 1 := Nat.succ_le_succ hK0
    have HKL : Hid (((rowsV n (startT n) zs).take (K0 + 1)).length = K0 + 1) := by show _ = _; rw [List.length_take, RLN.out]; exact Nat.min_eq_left hK1
    have HZR : Hid (zs.length + 1 ≤ (rowsV n (startT n) zs).length) := by show _ ≤ _; rw [RLN.out]; exact Nat.le_refl _
    have HKM : Hid (((rowsV n (startT n) zs).take (K0 + 1)).length ≤ 1000000) := by show _ ≤ _; rw [HKL.out]; exact Nat.le_trans hK1 (Nat.le_trans (Nat.succ_le_succ hZ2) (by decide))
    have wk : IntKind.i64.wrap ((K0 : Int) + 1) = (K0 : Int) + 1 := (wrapK hK6).1
    have wk' : wrap64 ((K0 : Int) + 1) = (K0 : Int) + 1 := (wrapK hK6).2
    go_enter Try.func8, Try.ntmps8
    go_upto_region 1 with fail
    generalize w.alloc (.cells #[.int .i64 n.nodes, .slice a n.arcs.length c] 24) = W0 at *
    go_upto_region 2 with (first
      | (go_at_call 9; (with_reducible refine (LN.out W0 B0.out).mono ?_); rintro e U1 ⟨g1, gc1, rfl, q1, q2⟩; have EL := hiddenN q1; have LL := hiddenN (B0.out.trans (q2.mono B0.out.size)); have MM1 := hiddenN q2; clear q1 q2)
      | (go_at_call 23; (with_reducible refine (IN.out U1 LL.out).mono ?_); rintro e Z1 ⟨p1, pc1, rfl, q1, q2⟩; have EZ := hiddenN (EL.out.below q2); have LZ := hiddenN (LL.out.trans (q2.mono LL.out.size)); have MM2 := hiddenN (MM1.out.trans (q2.mono MM1.out.size)); have PZ := hiddenN q1.at; clear q1 q2 LL EL MM1; have CC := hiddenN (PA.out Z1 ⟨g1, 0, none⟩ p1 gc1 pc1 EZ.out.at PZ.out); )
      | (go_at_call 11; (with_reducible refine CC.out.mono ?_); rintro e W1 ⟨rb, ro, rc, rfl, hrc, r1, q2⟩; have L1 := hiddenN (LZ.out.trans (q2.mono LZ.out.size)); have M1 := hiddenN (MM2.out.trans (q2.mono MM2.out.size)); have RR := hiddenN r1; clear r1; have G1 := hiddenN (G0.out.below M1.out); have z0 := G1.out.cell (k := 0) rfl; have z1 := G1.out.cell (k := 1) rfl; simp only [List.getElem_toArray, List.getElem_cons_zero, List.getElem_cons_succ] at z0 z1; clear q2 CC LZ MM2))
    go_upto_region 7 with fail
    have hkc : K0 ≤ cap1 := Nat.le_trans hK0 hcap
    refine wp_region_gen [] (fun d i u z => match i with
        | 0 => z = .agg #[.int .i64 n.nodes, .slice a n.arcs.length c]
        | 1 => LnS n u z
        | 2 => z = .slice a1 zs.length cap1
        | 3 => z = .int .i64 (K0 : Int)
        | 4 => z = .slice a1 K0 cap1
        | 5 => CnS K0 u (zs.take K0) z
        | 6 => AnS ((rowsV n (startT n) zs).take (K0 + 1)) (K0 + 1) u z
        | 7 => AnS ((rowsV n (startT n) zs).take (K0 + 1)) (K0 + 1) u z
        | 8 => RoS ((rowsV n (startT n) zs).take (K0 + 1)) (K0 + 1) u z
        | 9 => z = .int .i64 0
        | 10 => RoS ((rowsV n (startT n) zs).take (K0 + 1)) (K0 + 1) u z
        | 11 => z = .int .i64 0
        | _ => True) (fun _ u => Below W1.heap.size W1 u) (by kernel_rfl) (by kernel_rfl) (by kernel_rfl) ?_ ?_ ?_ ?_ ?_ ?_ (by kernel_rfl)
    · intro d i w v w' h hb
      match i, h with
      | 0, h => exact h
      | 1, h => exact LnS.later h hb
      | 2, h => exact h
      | 3, h => exact h
      | 4, h => exact h
      | 5, h => exact CnS.later h hb
      | 6, h => exact AnS.later h hb
      | 7, h => exact AnS.later h hb
      | 8, h => exact RoS.later h hb
      | 9, h => exact h
      | 10, h => exact RoS.later h hb
      | 11, h => exact h
      | _ + 12, _ => trivial
    · intro d u u' h hb
      exact h.trans (hb.mono h.size)
    · exact Below.refl _ _
    · intro d i o ρ w' hm ho hf hg hC hcs hfs hfr hdep
      match i, hm, ho, hf, hg, hfr, hdep with
      | 0, _, ho, hf, hg, hfr, hdep =>
        simp only [gTA, gCZ, gSI] at ho
        subst ho
        refine ⟨fun _ => ?_, fun hw => absurd (show true = false from hw) (by decide)⟩
        have ts : ρ (.tmp 3) = .pointer (some ⟨w.heap.size, 0, none⟩) := hfr 3 (by kernel_rfl)
        have k0 := cellN_later hC z0
        have k1 := cellN_later hC z1
        simp [go_sem, ts, k0, k1]
        exact ⟨Below.refl _ _, rfl⟩
      | 1, _, ho, hf, hg, hfr, hdep =>
        simp only [gTA, gCZ, gCS, gSI] at ho
        subst ho
        refine ⟨fun _ => ?_, fun hw => absurd (show true = false from hw) (by decide)⟩
        have t0 : ρ (.tmp 49) = .agg #[.int .i64 n.nodes, .slice a n.arcs.length c] := hdep 0 49 (by kernel_rfl) (by kernel_rfl)
        simp [go_sem, t0, hfs]
        exact ⟨rfl, (LN.out w' (L1.out.trans (hC.mono L1.out.size))).mono fun e w'' ⟨g, gc, e1, q1, q2⟩ => ⟨_, e1, q2, g, gc, rfl, q1.at⟩⟩
      | 2, _, ho, hf, hg, hfr, hdep =>
        simp only [gTA, gCZ, gCS, gSI] at ho
        subst ho
        refine ⟨fun _ => ?_, fun hw => absurd (show true = false from hw) (by decide)⟩
        have ts : ρ (.tmp 1) = .slice a1 zs.length cap1 := hfr 1 (by kernel_rfl)
        simp [go_sem, ts]
        exact ⟨Below.refl _ _, rfl⟩
      | 3, _, ho, hf, hg, hfr, hdep =>
        simp only [gTA, gCZ, gCS, gSI] at ho
        subst ho
        refine ⟨fun _ => ?_, fun hw => absurd (show true = false from hw) (by decide)⟩
        have ts : ρ (.tmp 9) = .int .i64 (K0 : Int) := hfr 9 (by kernel_rfl)
        simp [go_sem, ts]
        exact ⟨Below.refl _ _, rfl⟩
      | 4, _, ho, hf, hg, hfr, hdep =>
        simp only [gTA, gCZ, gCS, gSI] at ho
        subst ho
        refine ⟨fun _ => ?_, fun hw => absurd (show true = false from hw) (by decide)⟩
        have t0 : ρ (.tmp 51) = .slice a1 zs.length cap1 := hdep 2 51 (by kernel_rfl) (by kernel_rfl)
        have t1 : ρ (.tmp 52) = .int .i64 (K0 : Int) := hdep 3 52 (by kernel_rfl) (by kernel_rfl)
        simp [go_sem, Instr.slice, Instr.sliceBounds, Instr.sliceBound, t0, t1, hkc]
        exact ⟨Below.refl _ _, rfl⟩
      | 5, _, ho, hf, hg, hfr, hdep =>
        simp only [gTA, gCZ, gCS, gSI] at ho
        subst ho
        refine ⟨fun _ => ?_, fun hw => absurd (show true = false from hw) (by decide)⟩
        have t0 : ρ (.tmp 53) = .slice a1 K0 cap1 := hdep 4 53 (by kernel_rfl) (by kernel_rfl)
        simp [go_sem, t0, hfs]
        exact ⟨rfl, (IK.out w' (L1.out.trans (hC.mono L1.out.size))).mono fun e w'' ⟨p, pc, e1, q1, q2⟩ => ⟨_, e1, q2, p, pc, rfl, q1.at⟩⟩
      | 6, _, ho, hf, hg, hfr, hdep =>
        simp only [gTA, gCZ, gCS, gSI] at ho
        subst ho
        refine ⟨fun _ => ?_, fun hw => absurd (show true = false from hw) (by decide)⟩
        obtain ⟨g, gc, t0, q1⟩ : LnS n w' (ρ (.tmp 50)) := hdep 1 50 (by kernel_rfl) (by kernel_rfl)
        obtain ⟨p, pc, t1, q2⟩ : CnS K0 w' (zs.take K0) (ρ (.tmp 54)) := hdep 5 54 (by kernel_rfl) (by kernel_rfl)
        simp [go_sem, t0, t1, hfs]
        exact ⟨rfl, (PK.out w' _ p gc pc q1 q2).mono fun e w'' ⟨b, off, rc, e1, h1, h2, h3⟩ => ⟨_, e1, h3, _, rfl, b, off, rc, rfl, h2⟩⟩
      | 7, _, ho, hf, hg, hfr, hdep =>
        simp only [gTA, gCZ, gCS, gSI] at ho
        subst ho
        refine ⟨fun _ => ?_, fun hw => absurd (show true = false from hw) (by decide)⟩
        obtain ⟨v, t0, q1⟩ : AnS ((rowsV n (startT n) zs).take (K0 + 1)) (K0 + 1) w' (ρ (.tmp 55)) := hdep 6 55 (by kernel_rfl) (by kernel_rfl)
        simp [go_sem, t0]
        exact ⟨Below.refl _ _, v, rfl, q1⟩
      | 8, _, ho, hf, hg, hfr, hdep =>
        simp only [gTA, gCZ, gCS, gSI] at ho
        subst ho
        refine ⟨fun _ => ?_, fun hw => absurd (show true = false from hw) (by decide)⟩
        obtain ⟨v, t0, q1⟩ : AnS ((rowsV n (startT n) zs).take (K0 + 1)) (K0 + 1) w' (ρ (.tmp 48)) := hdep 7 48 (by kernel_rfl) (by kernel_rfl)
        simp [go_sem, t0]
        exact ⟨Below.refl _ _, q1⟩
      | 9, _, ho, hf, hg, hfr, hdep =>
        simp only [gTA, gCZ, gCS, gSI] at ho
        subst ho
        refine ⟨fun _ => ?_, fun hw => absurd (show true = false from hw) (by decide)⟩
        obtain ⟨v, t0, q1⟩ : AnS ((rowsV n (startT n) zs).take (K0 + 1)) (K0 + 1) w' (ρ (.tmp 48)) := hdep 7 48 (by kernel_rfl) (by kernel_rfl)
        simp [go_sem, t0]
        exact ⟨Below.refl _ _, rfl⟩
      | 10, _, ho, hf, hg, hfr, hdep =>
        simp only [gTA, gCZ, gCS, gSI] at ho
        subst ho
        refine ⟨fun _ => ?_, fun hw => absurd (show true = false from hw) (by decide)⟩
        have q1 : RoS ((rowsV n (startT n) zs).take (K0 + 1)) (K0 + 1) w' (ρ (.tmp 56)) := hdep 8 56 (by kernel_rfl) (by kernel_rfl)
        simp [go_sem]
        exact ⟨Below.refl _ _, q1⟩
      | 11, _, ho, hf, hg, hfr, hdep =>
        simp only [gTA, gCZ, gCS, gSI] at ho
        subst ho
        refine ⟨fun _ => ?_, fun hw => absurd (show true = false from hw) (by decide)⟩
        have d0 : ρ (.tmp 57) = .int .i64 0 := hdep 9 57 (by kernel_rfl) (by kernel_rfl)
        simp [go_sem, d0]
        exact ⟨Below.refl _ _, rfl⟩
      | n + 12, _, ho, _, _, _, _ => simp at ho
    · intro d i o ρ w' hm ho h0 hf hg hC hcs hfs hfr hdep
      exact absurd hm (by simp)
    · intro V w9 hC9 hS
      have s10 : RoS ((rowsV n (startT n) zs).take (K0 + 1)) (K0 + 1) w9 (V 10) := hS 10 (by decide) (by intro h; cases h)
      obtain ⟨kb, ko, kc, e10, r10⟩ := s10
      have e11 : V 11 = .int .i64 0 := hS 11 (by decide) (by intro h; cases h)
      simp only [puts, e10, e11]
      simp only [Act.put, List.setIfInBounds_toArray, List.set_cons_zero, List.set_cons_succ]
      clear hS e10 e11
      have HRW : Hid (∀ U, Below W1.heap.size W1 U → ∀ k, k < zs.length + 1 → ∃ y yc, U.cell? ⟨rb, ro + k, none⟩ = some (.slice y (nthLV (rowsV n (startT n) zs) k).length yc) ∧ At U y (nthLV (rowsV n (startT n) zs) k)) := fun U hb k hk => by
        obtain ⟨y, yc, h1, h2⟩ := RR.out k hk
        exact ⟨y, yc, cellN_later hb h1, h2.below hb⟩
      have SL1 := hiddenN (sameLists_any (.slice (some ⟨kb, ko, none⟩) (K0 + 1) kc) (.slice (some ⟨rb, ro, none⟩) (K0 + 1) rc) _ w9 (lsV_all r10 HKL.out) (lsV_pre (HRW.out w9 hC9) hK1 HZR.out) HKM.out HLK.out)
      have hk1 : K0 + 1 ≤ rc := Nat.le_trans hK1 hrc
      have M9 := hiddenN hC9
      clear r10 hC9 PA PK IK z0 z1 w1 w1' q8 hm1 hm2
      go_upto_region 10 with (go_at_call 13; (with_reducible refine SL1.out.mono ?_); rintro e W4 ⟨rfl, nq1, ev⟩; have q2 := drewB (Below.refl w9.heap.size w9) nq1; rw [← ev] at q2; have M4 := hiddenN (M9.out.trans (q2.mono M9.out.size)); clear q2 ev SL1)
      have L4 := hiddenN (L1.out.trans (M4.out.mono L1.out.size))
      have G4 := hiddenN (G1.out.below M4.out)
      have z0 := G4.out.cell (k := 0) rfl; have z1 := G4.out.cell (k := 1) rfl; simp only [List.getElem_toArray, List.getElem_cons_zero, List.getElem_cons_succ] at z0 z1
      clear wk wk' hk1 HLK
      have HBE : Hid (homeB n zs = true → startT n = endV n (startT n) zs) := fun e => by unfold homeB at e; exact (of_decide_eq_true e).2
      generalize homeB n zs = hb at *
      go_upto_region 11 with (first
        | (go_at_call 9; (with_reducible refine (LN.out W4 L4.out).mono ?_); rintro e U5 ⟨g5, gc5, rfl, q1, q2⟩; have EL := hiddenN q1; have LL := hiddenN (L4.out.trans (q2.mono L4.out.size)); have MM1 := hiddenN q2; clear q1 q2)
        | (go_at_call 23; (with_reducible refine (IN.out U5 LL.out).mono ?_); rintro e Z5 ⟨p5, pc5, rfl, q1, q2⟩; have EZ := hiddenN (EL.out.below q2); have LZ := hiddenN (LL.out.trans (q2.mono LL.out.size)); have MM2 := hiddenN (MM1.out.trans (q2.mono MM1.out.size)); have PZ := hiddenN q1.at; clear q1 q2 LL EL MM1; have CC := hiddenN (PH.out Z5 ⟨g5, 0, none⟩ p5 gc5 pc5 EZ.out.at PZ.out); )
        | (go_at_call 21; (with_reducible refine CC.out.mono ?_); rintro e W5 ⟨rfl, q2⟩; have L5 := hiddenN (LZ.out.trans (q2.mono LZ.out.size)); have M5 := hiddenN (MM2.out.trans (q2.mono MM2.out.size)); have M3 := hiddenN (M4.out.trans (MM2.out.trans (q2.mono MM2.out.size) |>.mono M4.out.size)); clear q2 CC LZ MM2))
      have G5 := hiddenN (G4.out.below M5.out)
      have z0 := G5.out.cell (k := 0) rfl; have z1 := G5.out.cell (k := 1) rfl; simp only [List.getElem_toArray, List.getElem_cons_zero, List.getElem_cons_succ] at z0 z1
      clear PH
      cases hb with
      | false =>
        go_wp2_with (go_at_call 15; (with_reducible refine (AW.out _).mono ?_); rintro e VV ⟨rfl, q2⟩; have LF := hiddenN (L5.out.trans (q2.mono L5.out.size)); clear q2)
        go_ret
        exact ⟨by first | rfl | simp, LF.out⟩
      | true =>
        by_cases h1k : 1024 < zs.length
        · have hgt : (zs.length : Int) > 1024 := by omega
          go_wp2_with (go_at_call 15; (with_reducible refine (AW.out _).mono ?_); rintro e VV ⟨rfl, q2⟩; have LF := hiddenN (L5.out.trans (q2.mono L5.out.size)); clear q2)
          go_ret
          exact ⟨by first | rfl | simp, LF.out⟩
        · have hgt : ¬ (zs.length : Int) > 1024 := by omega
          have hh := (HBE.out rfl).symm
          obtain ⟨Z2, hZ⟩ : ∃ Z2, zs.length + zs.length = Z2 := ⟨_, rfl⟩
          have c2 := code_twice hc (by omega) hh
          have PT : Hid (∀ U x y cx cy, AtN U (some x) n.arcs → At U y (zs ++ zs) → Calls Try.prog 11 #[.agg #[.int .i64 n.nodes, .slice (some x) n.arcs.length cx], .slice y Z2 cy] U (AlgE (rowsV n (startT n) (zs ++ zs)) (Z2 + 1) U)) := fun U x y cx cy q1 q2 => by
            have q := alongG n c2 U x y cx cy q1 hroom q2 (by rw [List.length_append]; omega)
            rw [List.length_append, hZ] at q
            exact q
          have PM : Hid (∀ U x y cx cy, AtN U (some x) n.arcs → At U y zs → Calls Try.prog 18 #[.agg #[.int .i64 n.nodes, .slice (some x) n.arcs.length cx], .slice y zs.length cy] U fun e w' => ∃ ar cr, e = .returned (.tuple #[.slice ar n.arcs.length cr, .int .i64 0]) ∧ At w' ar (mostM n zs) ∧ Below U.heap.size U w') := fun U x y cx cy q1 q2 => (most_anyV n (some x) cx U q1 (fun e => by cases e) y cy zs q2 hzl hroom).mono fun e w' hh => by
            rcases hh with ⟨-, B, ar, cr, e1, -, -, q1, q2⟩ | ⟨k1, -⟩
            · exact ⟨ar, cr, e1, q1.at, q2⟩
            · exact absurd hc k1
          have PM2 : Hid (∀ U x y cx cy, AtN U (some x) n.arcs → At U y (zs ++ zs) → Calls Try.prog 18 #[.agg #[.int .i64 n.nodes, .slice (some x) n.arcs.length cx], .slice y Z2 cy] U fun e w' => ∃ ar cr, e = .returned (.tuple #[.slice ar n.arcs.length cr, .int .i64 0]) ∧ At w' ar (mostM n zs) ∧ Below U.heap.size U w') := fun U x y cx cy q1 q2 => by
            have q := most_anyV n (some x) cx U q1 (fun e => by cases e) y cy (zs ++ zs) q2 (by rw [List.length_append]; omega) hroom
            rw [List.length_append, hZ] at q
            refine q.mono fun e w' h9 => ?_
            rcases h9 with ⟨-, B, ar, cr, e1, -, -, q1, q2⟩ | ⟨k1, -⟩
            · rw [mostM_twice hh] at q1
              exact ⟨ar, cr, e1, q1.at, q2⟩
            · exact absurd c2 k1
          have RT : Hid ((rowsV n (startT n) (zs ++ zs)).length = Z2 + 1 ∧ (rowsV n (startT n) (zs ++ zs)).take (zs.length + 1) = rowsV n (startT n) zs ∧ (rowsV n (startT n) (zs ++ zs)).drop zs.length = rowsV n (startT n) zs) := ⟨by rw [rows_len, List.length_append, hZ], rows_twice_take n zs _ hh, rows_twice_drop n zs _ hh⟩
          have HML := hiddenN (mostM_len n zs)
          clear hc c2 hh HBE
          generalize rowsV n (startT n) (zs ++ zs) = RZ at *
          generalize rowsV n (startT n) zs = R at *
          generalize mostM n zs = MM at *
          have C0 := hiddenN (CapR.nil W5.heap.size W5)
          have hw5 := L5.out.size
          go_upto_region 15 with (at_builtin; refine wpList_appI rfl _ _ rfl W5.heap.size none 0 [] rfl C0.out a1 cap1 zs rfl H1.out.none (H1.out.below L5.out).lies (by simp; omega) (Nat.le_refl _) zs.length zs (by simp) rfl ?_; intro d6 c6 W6 hd6 b6; have D6 := hiddenN hd6; have B6 := hiddenN b6; clear hd6 b6)
          have L6 := hiddenN (L5.out.trans (B6.out.mono L5.out.size))
          go_upto_region 16 with (at_builtin; refine wpList_appI rfl _ _ rfl W5.heap.size d6 c6 zs rfl D6.out a1 cap1 zs rfl H1.out.none (H1.out.below L6.out).lies (by omega) B6.out.size Z2 (zs ++ zs) hZ rfl ?_; intro d7 c7 W7 hd7 b7; have D7 := hiddenN hd7; have B7 := hiddenN (B6.out.trans b7); clear hd7 b7)
          have L7 := hiddenN (L5.out.trans (B7.out.mono L5.out.size))
          have M7 := hiddenN (M3.out.trans (B7.out.mono M3.out.size))
          have G7 := hiddenN (G5.out.below B7.out)
          have z0 := G7.out.cell (k := 0) rfl; have z1 := G7.out.cell (k := 1) rfl; simp only [List.getElem_toArray, List.getElem_cons_zero, List.getElem_cons_succ] at z0 z1
          clear D6 B6 L6 C0 G5 M5 L5 B7 G4 M4 L4 M9
          have D7A := hiddenN D7.out.at
          clear D7
          go_upto_region 17 with (first
            | (go_at_call 9; (with_reducible refine (LN.out W7 L7.out).mono ?_); rintro e U8 ⟨g8, gc8, rfl, q1, q2⟩; have LL8 := hiddenN (L7.out.trans (q2.mono L7.out.size)); have MM8 := hiddenN q2; have CC := hiddenN (PT.out U8 ⟨g8, 0, none⟩ d7 gc8 c7 q1.at (D7A.out.below q2)); clear q1 q2)
            | (go_at_call 11; (with_reducible refine CC.out.mono ?_); rintro e W8 ⟨tb, to', tc, rfl, htc, r1, q2⟩; have TT := hiddenN r1; have L8 := hiddenN (LL8.out.trans (q2.mono LL8.out.size)); have M8 := hiddenN (MM8.out.trans (q2.mono MM8.out.size)); clear q2 CC LL8 MM8 r1))
          have D8A := hiddenN (D7A.out.below M8.out)
          have M8' := hiddenN (M7.out.trans (M8.out.mono M7.out.size))
          have G8 := hiddenN (G7.out.below M8.out)
          have z0 := G8.out.cell (k := 0) rfl; have z1 := G8.out.cell (k := 1) rfl; simp only [List.getElem_toArray, List.getElem_cons_zero, List.getElem_cons_succ] at z0 z1
          clear D7A M8 G7 PT M7 L7
          go_upto_region 18 with (first
            | (go_at_call 9; (with_reducible refine (LN.out W8 L8.out).mono ?_); rintro e U9 ⟨g9, gc9, rfl, q1, q2⟩; have EL := hiddenN q1; have LL := hiddenN (L8.out.trans (q2.mono L8.out.size)); have MM1 := hiddenN q2; clear q1 q2)
            | (go_at_call 23; (with_reducible refine (IN.out U9 LL.out).mono ?_); rintro e Z9 ⟨p9, pc9, rfl, q1, q2⟩; have EZ := hiddenN (EL.out.below q2); have LZ := hiddenN (LL.out.trans (q2.mono LL.out.size)); have MM2 := hiddenN (MM1.out.trans (q2.mono MM1.out.size)); have PZ := hiddenN q1.at; clear q1 q2 LL EL MM1; have CC := hiddenN (PM.out Z9 ⟨g9, 0, none⟩ p9 gc9 pc9 EZ.out.at PZ.out); )
            | (go_at_call 18; (with_reducible refine CC.out.mono ?_); rintro e W9 ⟨ar, cr, rfl, r1, q2⟩; have L9 := hiddenN (LZ.out.trans (q2.mono LZ.out.size)); have M9 := hiddenN (MM2.out.trans (q2.mono MM2.out.size)); have AR := hiddenN r1; clear r1; clear q2 CC LZ MM2))
          have D9A := hiddenN (D8A.out.below M9.out)
          have T9 := hiddenN (fun k hk => by
            obtain ⟨y, yc, h1, h2⟩ := TT.out k hk
            exact (⟨y, yc, cellN_later M9.out h1, h2.below M9.out⟩ : ∃ y yc, W9.cell? ⟨tb, to' + k, none⟩ = some (.slice y (nthLV RZ k).length yc) ∧ At W9 y (nthLV RZ k)))
          have M9' := hiddenN (M8'.out.trans (M9.out.mono M8'.out.size))
          have G9 := hiddenN (G8.out.below M9.out)
          have z0 := G9.out.cell (k := 0) rfl; have z1 := G9.out.cell (k := 1) rfl; simp only [List.getElem_toArray, List.getElem_cons_zero, List.getElem_cons_succ] at z0 z1
          clear D8A M9 G8 PM M8' TT L8
          go_upto_region 19 with (first
            | (go_at_call 9; (with_reducible refine (LN.out W9 L9.out).mono ?_); rintro e U10 ⟨g10, gc10, rfl, q1, q2⟩; have LL10 := hiddenN (L9.out.trans (q2.mono L9.out.size)); have MM10 := hiddenN q2; have CC := hiddenN (PM2.out U10 ⟨g10, 0, none⟩ d7 gc10 c7 q1.at (D9A.out.below q2)); clear q1 q2)
            | (go_at_call 18; (with_reducible refine CC.out.mono ?_); rintro e W10 ⟨ar2, cr2, rfl, r1, q2⟩; have AR2 := hiddenN r1; have L10 := hiddenN (LL10.out.trans (q2.mono LL10.out.size)); have M10 := hiddenN (MM10.out.trans (q2.mono MM10.out.size)); clear q2 CC LL10 MM10 r1))
          have ARX := hiddenN (AR.out.below M10.out)
          have TX := hiddenN (fun k hk => by
            obtain ⟨y, yc, h1, h2⟩ := T9.out k hk
            exact (⟨y, yc, cellN_later M10.out h1, h2.below M10.out⟩ : ∃ y yc, W10.cell? ⟨tb, to' + k, none⟩ = some (.slice y (nthLV RZ k).length yc) ∧ At W10 y (nthLV RZ k)))
          have MX := hiddenN (M9'.out.trans (M10.out.mono M9'.out.size))
          clear D9A M10 G9 PM2 M9' T9 L9 AR z0 z1 LN IN
          have hZ26 : Z2 ≤ 1000000 := by omega
          have hZZ : zs.length + 1 ≤ Z2 + 1 := by omega
          have htc1 : zs.length + 1 ≤ tc := Nat.le_trans hZZ htc
          have hne : ¬ tc = zs.length := by omega
          have hle : zs.length ≤ Z2 + 1 := by omega
          have hsub : Z2 + 1 - zs.length = zs.length + 1 := by omega
          have hcut : zs.length + (zs.length + 1) ≤ Z2 + 1 := by omega
          have TWU : Hid (∀ U, Below W10.heap.size W10 U → ∀ k, k < Z2 + 1 → ∃ y yc, U.cell? ⟨tb, to' + k, none⟩ = some (.slice y (nthLV RZ k).length yc) ∧ At U y (nthLV RZ k)) := fun U hb k hk => by
            obtain ⟨y, yc, h1, h2⟩ := TX.out k hk
            exact ⟨y, yc, cellN_later hb h1, h2.below hb⟩
          have LS1 : Hid (∀ U, Below W10.heap.size W10 U → LsV U (.slice (some ⟨tb, to', none⟩) (zs.length + 1) tc) R) := fun U hb => by
            have q := lsV_pre (rc' := tc) (TWU.out U hb) hZZ (by rw [RT.out.1]; exact Nat.le_refl _)
            rw [RT.out.2.1] at q
            exact q
          have LS2 : Hid (∀ U, Below W10.heap.size W10 U → LsV U (.slice (some ⟨tb, to' + zs.length, none⟩) (zs.length + 1) (tc - zs.length)) R) := fun U hb => by
            have q := lsV_cut (rc' := tc - zs.length) (TWU.out U hb) hcut (by rw [RT.out.1]; exact Nat.le_refl _)
            rw [RT.out.2.2, List.take_of_length_le (by rw [RLN.out]; exact Nat.le_refl _)] at q
            exact q
          have LS3 : Hid (∀ U, Below W10.heap.size W10 U → LsV U (.slice (some ⟨rb, ro, none⟩) (zs.length + 1) rc) R) := fun U hb => lsV_all (HRW.out U (MX.out.trans (hb.mono MX.out.size))) RLN.out
          have hRM : R.length ≤ 1000000 := by rw [RLN.out]; omega
          have wm : IntKind.i64.wrap (2 * (zs.length : Int)) = (Z2 : Int) := (wrap2 hZ hZ6).1
          have wm' : wrap64 (2 * (zs.length : Int)) = (Z2 : Int) := (wrap2 hZ hZ6).2
          have wp : IntKind.i64.wrap ((Z2 : Int) + 1) = (Z2 : Int) + 1 := (wrapK hZ26).1
          have wp' : wrap64 ((Z2 : Int) + 1) = (Z2 : Int) + 1 := (wrapK hZ26).2
          have qz : ((Z2 : Int) + 1 != (Z2 : Int) + 1) = false := by simp
          have w1 : IntKind.i64.wrap ((zs.length : Int) + 1) = (zs.length : Int) + 1 := (wrapK hZ6).1
          have w1' : wrap64 ((zs.length : Int) + 1) = (zs.length : Int) + 1 := (wrapK hZ6).2
          go_upto_region 21 with fail
          have HZZ3 := hiddenN (And.intro hne (And.intro hle hsub))
          clear wm wm' wp wp' qz hZ26 hcut hZZ hne hle hsub hZ htc hZ2 hK0 hK1 hK6 hkc hgt h1k hrc hm0 hcap hw5
          go_wp2_with (first
            | (go_at_call 15; (with_reducible refine (AW.out _).mono ?_); rintro e VV ⟨rfl, q2⟩; have LV := hiddenN (L10.out.trans (q2.mono L10.out.size)); have QV := hiddenN q2; have SS1 := hiddenN (sameLists_any (.slice (some ⟨tb, to', none⟩) (zs.length + 1) tc) (.slice (some ⟨rb, ro, none⟩) (zs.length + 1) rc) R VV (LS1.out _ q2) (LS3.out _ q2) hRM HLS.out); clear q2)
            | (go_at_call 13; (with_reducible refine SS1.out.mono ?_); rintro e VW ⟨rfl, nqa, ev⟩; have q2 := drewB (Below.refl VV.heap.size VV) nqa; rw [← ev] at q2; have LW := hiddenN (LV.out.trans (q2.mono LV.out.size)); have QW := hiddenN (QV.out.trans (q2.mono QV.out.size)); obtain ⟨hne, hle, hsub⟩ := HZZ3.out; have SS2 := hiddenN (sameLists_any (.slice (some ⟨tb, to' + zs.length, none⟩) (zs.length + 1) (tc - zs.length)) (.slice (some ⟨rb, ro, none⟩) (zs.length + 1) rc) R VW (LS2.out _ QW.out) (LS3.out _ QW.out) hRM HLS.out); clear q2 ev SS1)
            | (go_at_call 13; (with_reducible refine SS2.out.mono ?_); rintro e VX ⟨rfl, nqb, ev⟩; have q2 := drewB (Below.refl VW.heap.size VW) nqb; rw [← ev] at q2; have LX := hiddenN (LW.out.trans (q2.mono LW.out.size)); have QX := hiddenN (QW.out.trans (q2.mono QW.out.size)); have SI := hiddenN (same_any ar ar2 MM n.arcs.length cr cr2 VX HML.out hroom (ARX.out.below QX.out) (AR2.out.below QX.out)); clear q2 ev SS2)
            | (go_at_call 20; (with_reducible refine SI.out.mono ?_); rintro e VY ⟨nqc, rfl, ev⟩; have q2 := drewB (Below.refl VX.heap.size VX) nqc; rw [← ev] at q2; have LY := hiddenN (LX.out.trans (q2.mono LX.out.size)); clear q2 ev))
          go_ret
          exact ⟨by first | rfl | simp, LY.out⟩
  · have q1 : (codeV n zs != 0) = true := by simpa using hc
    have PA : Hid (∀ U x y cx cy, AtN U (some x) n.arcs → At U y zs → Calls Try.prog 11 #[.agg #[.int .i64 n.nodes, .slice (some x) n.arcs.length cx], .slice y zs.length cy] U fun e w' => e = .returned (.tuple #[.slice none 0 0, .int .i64 (codeV n zs)]) ∧ Below U.heap.size U w') := fun U x y cx cy q1 q2 => (along_any n (some x) cx U q1 hroom (fun e => by cases e) y cy zs q2 hzl).mono fun e w' hh => by
      rcases hh with ⟨k1, -⟩ | ⟨-, e1, q⟩
      · exact absurd k1 hc
      · exact ⟨e1, q⟩
    clear hc
    generalize codeV n zs = cd at *
    go_enter Try.func8, Try.ntmps8
    go_upto_region 1 with fail
    generalize w.alloc (.cells #[.int .i64 n.nodes, .slice a n.arcs.length c] 24) = W0 at *
    go_upto_region 2 with (first
      | (go_at_call 9; (with_reducible refine (LN.out W0 B0.out).mono ?_); rintro e U1 ⟨g1, gc1, rfl, q1, q2⟩; have EL := hiddenN q1; have LL := hiddenN (B0.out.trans (q2.mono B0.out.size)); have MM1 := hiddenN q2; clear q1 q2)
      | (go_at_call 23; (with_reducible refine (IN.out U1 LL.out).mono ?_); rintro e Z1 ⟨p1, pc1, rfl, q1, q2⟩; have EZ := hiddenN (EL.out.below q2); have LZ := hiddenN (LL.out.trans (q2.mono LL.out.size)); have MM2 := hiddenN (MM1.out.trans (q2.mono MM1.out.size)); have PZ := hiddenN q1.at; clear q1 q2 LL EL MM1; have CC := hiddenN (PA.out Z1 ⟨g1, 0, none⟩ p1 gc1 pc1 EZ.out.at PZ.out); )
      | (go_at_call 11; (with_reducible refine CC.out.mono ?_); rintro e W1 ⟨rfl, q2⟩; have L1 := hiddenN (LZ.out.trans (q2.mono LZ.out.size)); have M1 := hiddenN (MM2.out.trans (q2.mono MM2.out.size)); have G1 := hiddenN (G0.out.below M1.out); have z0 := G1.out.cell (k := 0) rfl; have z1 := G1.out.cell (k := 1) rfl; simp only [List.getElem_toArray, List.getElem_cons_zero, List.getElem_cons_succ] at z0 z1; clear q2 CC LZ MM2))
    go_wp2_with (go_at_call 15; (with_reducible refine (AW.out _).mono ?_); rintro e VV ⟨rfl, q2⟩; have LF := hiddenN (L1.out.trans (q2.mono L1.out.size)); clear q2)
    go_ret
    exact ⟨by first | rfl | simp, LF.out⟩
end Go.Proofs.Ytkgekladndkhkaa

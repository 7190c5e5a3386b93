/- Texts of one chain, laid one behind the other. -/
import Derived.Test.YtimioiaoefhabaaGreatPartPackPlaces16
import Derived.Test.YtimioiaoefhabaaGreatPartPackPlaces9
namespace Go.Proofs.YtimioiaoefhabaaGreat
open Go.ChangeShapes Go.WideShapes Go.ChangeAt Go.RowKit
theorem sizRS : (Tryz.prog.info? 87).map (·.size) = some 3 := by kernel_rfl
set_option maxRecDepth 100000 in
set_option maxHeartbeats 4000000 in
theorem rmay10_any {B : Nat} (w : World) (n : NN) (a : Option Addr) (c g N : Nat) (T F : List Int) (h : DocS B w n a g N F) (hI : InvN n T F) (v : Int) : Calls Tryz.prog 49 #[.agg #[.int .i64 n.nodes, .slice a n.arcs.length c, .slice (some ⟨g, 0, none⟩) N N], .int .i64 v] w fun e w' => e = .returned (.bool (mayN n T v)) ∧ Below w.heap.size w w' := by
  have ba := (Below.refl w.heap.size w).alloc (Nat.le_refl _) (.cells #[.int .i64 n.nodes, .slice a n.arcs.length c, .slice (some ⟨g, 0, none⟩) N N] 87)
  have X := hiddenN (blkA_new 87 w #[.int .i64 n.nodes, .slice a n.arcs.length c, .slice (some ⟨g, 0, none⟩) N N])
  have H := hiddenN (h.below ba)
  have B0 := hiddenN ba
  have ND : Hid (∀ s w1, Calls Tryz.prog 65 #[.agg #[.int .i64 n.nodes, s], .int .i64 v] w1 fun e w' => e = .returned (.bool (nodB n.nodes v)) ∧ Below w1.heap.size w1 w') := fun s w1 => rnode_any n.nodes v s w1
  have enb : nodB n.nodes v = nodeB n v := by
    unfold nodB nodeB
    by_cases h1 : 0 ≤ v <;> by_cases h2 : v < n.nodes <;> simp [h1, h2]
  rw [enb] at ND
  rw [may_iff]
  have hsc : decide (shortN n T v < 0) = decide (shortN n T v = -1) := by
    rcases short_cases n T v with e | e
    · rw [e]; rfl
    · rw [decide_eq_false (by omega), decide_eq_false (by omega)]
  rw [← hsc]
  have SH := hiddenN (fun (U : World) (hb : Below (w.alloc (.cells #[.int .i64 n.nodes, .slice a n.arcs.length c, .slice (some ⟨g, 0, none⟩) N N] 87)).heap.size (w.alloc (.cells #[.int .i64 n.nodes, .slice a n.arcs.length c, .slice (some ⟨g, 0, none⟩) N N] 87)) U) => rshort10_any U n a c g N T F (H.out.below hb) hI v)
  generalize shortN n T v = s at *
  generalize nodeB n v = b at *
  have x0 := X.out.cell (k := 0) rfl
  have x1 := X.out.cell (k := 1) rfl
  have x2 := X.out.cell (k := 2) rfl
  simp only [List.getElem_toArray, List.getElem_cons_zero, List.getElem_cons_succ] at x0 x1 x2
  clear ba h hI enb hsc H
  go_enter Tryz.func49, Tryz.ntmps49
  go_upto_region 1 with fail
  generalize w.alloc (.cells #[.int .i64 n.nodes, .slice a n.arcs.length c, .slice (some ⟨g, 0, none⟩) N N] 87) = W0 at *
  cases b with
  | false =>
    go_wp2_with (go_at_call 65; (with_reducible refine (ND.out _ _).mono ?_); rintro e U ⟨rfl, b1⟩; have B1 := hiddenN (B0.out.trans (b1.mono B0.out.size)); clear b1)
    go_ret
    exact ⟨by first | rfl | simp, B1.out⟩
  | true =>
    go_wp2_with (first
      | (go_at_call 65; (with_reducible refine (ND.out _ _).mono ?_); rintro e U ⟨rfl, b1⟩; have B1 := hiddenN (B0.out.trans (b1.mono B0.out.size)); have SU := hiddenN (SH.out _ b1); have X1 := hiddenN (X.out.below b1); clear b1 x0 x1 x2; have x0 := X1.out.cell (k := 0) rfl; have x1 := X1.out.cell (k := 1) rfl; have x2 := X1.out.cell (k := 2) rfl; simp only [List.getElem_toArray, List.getElem_cons_zero, List.getElem_cons_succ] at x0 x1 x2)
      | (go_at_call 68; (with_reducible refine SU.out.mono ?_); rintro e U2 ⟨rfl, b2⟩; have B2 := hiddenN (B1.out.trans (b2.mono B1.out.size)); clear b2))
    go_ret
    exact ⟨by first | rfl | simp, B2.out⟩
theorem DocS.but {B : Nat} {U : World} {n : NN} {a : Option Addr} {g N : Nat} {F : List Int} (h : DocS B U n a g N F) {q : Nat} {x : Int} (hx : -9223372036854775808 ≤ x ∧ x ≤ 9223372036854775807) : DocS B (U.setCell ⟨g, q, none⟩ (.int .i64 x)) n a g N (F.set q x) := by
  refine ⟨?_, h.fir.setAt x, by rw [List.length_set]; exact h.lF, h.nodes, h.sound, h.far, inR_setN h.inr hx⟩
  rcases h.arcs with e | ⟨b, off, e, hc⟩
  · exact .inl e
  · by_cases hne : n.arcs = []
    · exact .inl hne
    · have hb : b ≠ g := h.far _ e hne
      refine .inr ⟨b, off, e, fun k hk => ?_⟩
      obtain ⟨h0, h1, h2, h3, h4⟩ := hc k hk
      have key : ∀ j v, U.cell? ⟨b, j, none⟩ = some v → (U.setCell ⟨g, q, none⟩ (.int .i64 x)).cell? ⟨b, j, none⟩ = some v := fun j v hv => cell_block (Below.heap_setCell U ⟨g, q, none⟩ _ b hb) hv
      exact ⟨key _ _ h0, key _ _ h1, key _ _ h2, key _ _ h3, key _ _ h4⟩
set_option maxRecDepth 100000 in
set_option maxHeartbeats 16000000 in
theorem rfire10_any {B : Nat} (w : World) (n : NN) (a : Option Addr) (c g N : Nat) (T F : List Int) (h : DocS B w n a g N F) (hI : InvN n T F) (b : Option Addr) (cz : Nat) (zs : List Int) (hz : At w b zs) (hl : zs.length ≤ 4611686018427387904) (hK : ∀ x, b = some x → zs ≠ [] → x.block ≠ g) :
    Calls Tryz.prog 50 #[.agg #[.int .i64 n.nodes, .slice a n.arcs.length c, .slice (some ⟨g, 0, none⟩) N N], .slice b zs.length cz] w fun e w' => e = .returned (.int .i64 ((firesN n zs T F).1 : Int)) ∧ DocS B w' n a g N (firesN n zs T F).2.2 ∧ But g w w' := by
  obtain ⟨R, hR⟩ : ∃ R, firesN n zs T F = R := ⟨_, rfl⟩
  rw [hR]
  have ba := (Below.refl w.heap.size w).alloc (Nat.le_refl _) (.cells #[.int .i64 n.nodes, .slice a n.arcs.length c, .slice (some ⟨g, 0, none⟩) N N] 87)
  have X := hiddenN (blkA_new 87 w #[.int .i64 n.nodes, .slice a n.arcs.length c, .slice (some ⟨g, 0, none⟩) N N])
  have H := hiddenN (h.below ba)
  have B0 := hiddenN ba
  have HZ := hiddenN (hz.below ba)
  have hgw : g < w.heap.size := (h.fir.lt _ rfl).2
  have HSN := hiddenN h.sound
  obtain ⟨Nz, hNz⟩ : ∃ N, zs.length = N := ⟨_, rfl⟩
  rw [hNz] at hl ⊢
  clear ba h hz
  go_enter Tryz.func50, Tryz.ntmps50
  go_upto_region 1 with fail
  generalize w.alloc (.cells #[.int .i64 n.nodes, .slice a n.arcs.length c, .slice (some ⟨g, 0, none⟩) N N] 87) = W0 at *
  go_wp2
  go_loopg [5] Nz (fun gk u wr => ∃ (k : Nat) (T1 F1 : List Int), k ≤ Nz ∧ gk = Nz - k ∧ u = .int .i64 (k : Int) ∧ DocS B wr n a g N F1 ∧ InvN n T1 F1 ∧ But g W0 wr ∧ R = (k + (firesN n (zs.drop k) T1 F1).1, (firesN n (zs.drop k) T1 F1).2))
  case atStart => exact ⟨0, T, F, Nat.zero_le _, rfl, rfl, H.out, hI, But.of_below (Below.refl _ _), by rw [List.drop_zero, hR, Nat.zero_add]⟩
  case round =>
    clear H hI
    obtain ⟨k, T1, F1, hk, rfl, rfl, hD, hI1, hM, hE⟩ := hrel
    have HD := hiddenN hD
    have HI := hiddenN hI1
    have HM := hiddenN hM
    clear hD hI1 hM
    by_cases hlt : k < Nz
    · have hki : (k : Int) < (Nz : Int) := by omega
      have hkl : k < Nz := hlt
      have hne : zs ≠ [] := fun e => by rw [e] at hNz; simp at hNz; omega
      have XB := hiddenN (X.out.keep (HM.out.block _ X.out.lt (by omega)))
      have hzr : At wr b zs := HZ.out.keep fun x hx => HM.out.block _ (at_lt HZ.out hne hx) (hK x hx hne)
      rcases hzr with e | ⟨zb, zo, eb, hc⟩
      · exact absurd e hne
      subst eb
      have c0 := hc k (by omega)
      have x0 := XB.out.cell (k := 0) rfl
      have x1 := XB.out.cell (k := 1) rfl
      have x2 := XB.out.cell (k := 2) rfl
      simp only [List.getElem_toArray, List.getElem_cons_zero, List.getElem_cons_succ] at x0 x1 x2
      have hdr : zs.drop k = nth zs k :: zs.drop (k + 1) := by
        rw [List.drop_eq_getElem_cons (by omega)]
        unfold nth
        rw [List.getD_eq_getElem?_getD, List.getElem?_eq_getElem (by omega)]
        rfl
      rw [hdr] at hE
      unfold firesN at hE
      have MY0 := hiddenN (fun (U : World) (hb : Below wr.heap.size wr U) => rmay10_any U n a c g N T1 F1 (HD.out.below hb) HI.out (nth zs k))
      have MN := hiddenN (fun (e : mayN n T1 (nth zs k) = true) => may_node e)
      have HE := hiddenN hE
      clear hE hc hdr
      generalize nth zs k = v at *
      obtain ⟨bm, hbm⟩ : ∃ b, mayN n T1 v = b := ⟨_, rfl⟩
      rw [hbm] at MY0 HE MN
      have MY : Hid (∀ U, Below wr.heap.size wr U → Calls Tryz.prog 49 #[.agg #[.int .i64 n.nodes, .slice a n.arcs.length c, .slice (some ⟨g, 0, none⟩) N N], .int .i64 v] U fun e w' => e = .returned (.bool bm) ∧ Below U.heap.size U w') := fun U hb => MY0.out U hb
      have HBM := hiddenN hbm
      clear MY0 hbm
      go_upto_region 4 with fail
      refine wp_region_gen [] (fun d i u z => match i with
          | 0 => z = .agg #[.int .i64 n.nodes, .slice a n.arcs.length c, .slice (some ⟨g, 0, none⟩) N N]
          | 1 => z = .slice (some ⟨zb, zo, none⟩) Nz cz
          | 2 => z = .int .i64 (k : Int)
          | 3 => z = .pointer (some ⟨zb, zo + k, none⟩)
          | 4 => z = .int .i64 v
          | 5 => z = .bool bm
          | 6 => z = .bool (!bm)
          | _ => True) (fun _ u => Below wr.heap.size wr u) (by kernel_rfl) (by kernel_rfl) (by kernel_rfl) ?_ ?_ ?_ ?_ ?_ ?_ (by kernel_rfl)
      · intro d i w v w' h hb
        match i, h with
        | 0, h => exact h
        | 1, h => exact h
        | 2, h => exact h
        | 3, h => exact h
        | 4, h => exact h
        | 5, h => exact h
        | 6, h => exact h
        | _ + 7, _ => trivial
      · intro d u u' h hb
        exact h.trans (hb.mono h.size)
      · exact Below.refl _ _
      · intro d i o ρ w' hm ho hf hg hC hcs hfs hfr hdep
        match i, hm, ho, hf, hg, hfr, hdep with
        | 0, _, ho, hf, hg, hfr, hdep =>
          simp only [gTA, gCZ, gSI] at ho
          subst ho
          refine ⟨fun _ => ?_, fun hw => absurd (show true = false from hw) (by decide)⟩
          have ts : ρ (.tmp 2) = .pointer (some ⟨w.heap.size, 0, none⟩) := hfr 2 (by kernel_rfl)
          have k0 := cellN_later hC x0
          have k1 := cellN_later hC x1
          have k2 := cellN_later hC x2
          simp [go_sem, ts, k0, k1, k2]
          exact ⟨Below.refl _ _, rfl⟩
        | 1, _, ho, hf, hg, hfr, hdep =>
          simp only [gTA, gCZ, gCS, gSI] at ho
          subst ho
          refine ⟨fun _ => ?_, fun hw => absurd (show true = false from hw) (by decide)⟩
          have ts : ρ (.tmp 1) = .slice (some ⟨zb, zo, none⟩) Nz cz := hfr 1 (by kernel_rfl)
          simp [go_sem, ts]
          exact ⟨Below.refl _ _, rfl⟩
        | 2, _, ho, hf, hg, hfr, hdep =>
          simp only [gTA, gCZ, gCS, gSI] at ho
          subst ho
          refine ⟨fun _ => ?_, fun hw => absurd (show true = false from hw) (by decide)⟩
          have ts : ρ (.tmp 5) = .int .i64 (k : Int) := hfr 5 (by kernel_rfl)
          simp [go_sem, ts]
          exact ⟨Below.refl _ _, rfl⟩
        | 3, _, ho, hf, hg, hfr, hdep =>
          simp only [gTA, gCZ, gCS, gSI] at ho
          subst ho
          refine ⟨fun _ => ?_, fun hw => absurd (show true = false from hw) (by decide)⟩
          have d0 : ρ (.tmp 13) = .slice (some ⟨zb, zo, none⟩) Nz cz := hdep 1 13 (by kernel_rfl) (by kernel_rfl)
          have d1 : ρ (.tmp 14) = .int .i64 (k : Int) := hdep 2 14 (by kernel_rfl) (by kernel_rfl)
          simp [go_sem, d0, d1, hkl]
          exact ⟨Below.refl _ _, rfl⟩
        | 4, _, ho, hf, hg, hfr, hdep =>
          simp only [gTA, gCZ, gCS, gSI] at ho
          subst ho
          refine ⟨fun _ => ?_, fun hw => absurd (show true = false from hw) (by decide)⟩
          have cc : w'.cell? ⟨zb, zo + k, none⟩ = some (.int .i64 v) := cellN_later hC c0
          have d0 : ρ (.tmp 15) = .pointer (some ⟨zb, zo + k, none⟩) := hdep 3 15 (by kernel_rfl) (by kernel_rfl)
          simp [go_sem, d0, cc]
          exact ⟨Below.refl _ _, rfl⟩
        | 5, _, ho, hf, hg, hfr, hdep =>
          simp only [gTA, gCZ, gCS, gSI] at ho
          subst ho
          refine ⟨fun _ => ?_, fun hw => absurd (show true = false from hw) (by decide)⟩
          have d0 : ρ (.tmp 12) = .agg #[.int .i64 n.nodes, .slice a n.arcs.length c, .slice (some ⟨g, 0, none⟩) N N] := hdep 0 12 (by kernel_rfl) (by kernel_rfl)
          have d1 : ρ (.tmp 16) = .int .i64 v := hdep 4 16 (by kernel_rfl) (by kernel_rfl)
          simp [go_sem, d0, d1, hfs]
          exact ⟨rfl, (MY.out w' hC).mono fun e w'' hh => ⟨_, hh.1, hh.2, rfl⟩⟩
        | 6, _, ho, hf, hg, hfr, hdep =>
          simp only [gTA, gCZ, gCS, gSI] at ho
          subst ho
          refine ⟨fun _ => ?_, fun hw => absurd (show true = false from hw) (by decide)⟩
          have d0 : ρ (.tmp 17) = .bool bm := hdep 5 17 (by kernel_rfl) (by kernel_rfl)
          simp [go_sem, d0]
          exact ⟨Below.refl _ _, rfl⟩
        | n + 7, _, ho, _, _, _, _ => simp at ho
      · intro d i o ρ w' hm ho h0 hf hg hC hcs hfs hfr hdep
        exact absurd hm (by simp)
      · intro V w9 hC9 hS
        have e6 : V 6 = .bool (!bm) := hS 6 (by decide) (by intro h; cases h)
        simp only [puts, e6]
        simp only [Act.put, List.setIfInBounds_toArray, List.set_cons_zero, List.set_cons_succ]
        clear hS e6
        have hb9 := hC9
        have D9 := hiddenN (HD.out.below hb9)
        have M9 := hiddenN (HM.out.trans (But.of_below hb9))
        cases bm with
        | false =>
          rw [if_neg (by decide)] at HE
          clear hC9 hb9
          go_wp2
          go_ret
          rw [HE.out]
          exact ⟨by simp, D9.out, (But.of_below B0.out).trans M9.out⟩
        | true =>
          rw [if_pos rfl] at HE
          have hnode := MN.out rfl
          have hv : 0 ≤ v ∧ v < n.nodes := of_decide_eq_true hnode
          obtain ⟨vn, rfl⟩ : ∃ k : Nat, v = (k : Int) := ⟨v.toNat, by omega⟩
          have hvN : vn < N := by have := D9.out.nodes; omega
          have I2 := hiddenN (fire_inv HSN.out HI.out hnode)
          have cg := D9.out.cell hvN
          have fg := D9.out.fir.fz vn
          have X9 := hiddenN (XB.out.below hb9)
          have c9 := cellN_later hb9 c0
          have eF : F1.set vn (wrap64 (nth F1 vn + 1)) = bumpF F1 (vn : Int) := by unfold bumpF; rw [Int.toNat_natCast]
          clear x0 x1 x2 c0 hC9 hb9
          have x2 := X9.out.cell (k := 2) rfl
          simp only [List.getElem_toArray, List.getElem_cons_zero, List.getElem_cons_succ] at x2
          have c0 := c9
          clear c9
          obtain ⟨wr2, hw2⟩ : ∃ W, w9 = W := ⟨_, rfl⟩
          rw [hw2] at D9 M9 X9 cg fg x2 c0 ⊢
          have DF : Hid (∀ U, Below wr2.heap.size wr2 U → U.cell? ⟨g, vn, none⟩ = some (.int .i64 (nth F1 vn)) ∧ U.frozen? ⟨g, vn, none⟩ = false ∧ DocS B (U.setCell ⟨g, vn, none⟩ (.int .i64 (wrap64 (nth F1 vn + 1)))) n a g N (bumpF F1 (vn : Int)) ∧ But g W0 (U.setCell ⟨g, vn, none⟩ (.int .i64 (wrap64 (nth F1 vn + 1))))) := fun U hb => by
            have q := D9.out.below hb
            refine ⟨q.cell hvN, q.fir.fz vn, ?_, (M9.out.trans (But.of_below hb)).trans (But.set U g vn _)⟩
            rw [← eF]
            exact q.but (wrap64_in _)
          generalize nth F1 vn = xg at *
          clear hw2 eF D9 M9 fg X9 hv hnode
          go_upto_region 6 with fail
          refine wp_region_said 15 (fun i u v => match i with
              | 0 => v = .pointer (some ⟨w.heap.size, 2, none⟩)
              | 1 => v = .slice (some ⟨g, 0, none⟩) N N
              | 2 => v = .slice (some ⟨zb, zo, none⟩) Nz cz
              | 3 => v = .int .i64 (k : Int)
              | 4 => v = .pointer (some ⟨zb, zo + k, none⟩)
              | 5 => v = .int .i64 (vn : Int)
              | 6 => v = .pointer (some ⟨w.heap.size, 2, none⟩)
              | 7 => v = .slice (some ⟨g, 0, none⟩) N N
              | 8 => v = .slice (some ⟨zb, zo, none⟩) Nz cz
              | 9 => v = .int .i64 (k : Int)
              | 10 => v = .pointer (some ⟨zb, zo + k, none⟩)
              | 11 => v = .int .i64 (vn : Int)
              | 12 => v = .pointer (some ⟨g, vn, none⟩)
              | 13 => v = .int .i64 xg
              | 14 => v = .int .i64 (wrap64 (xg + 1))
              | _ => True) (by kernel_rfl) (by kernel_rfl) (by kernel_rfl) (by kernel_rfl) ?_ ?_ ?_
          · intro i w v w' h hb
            match i, h with
            | 0, h => exact h
            | 1, h => exact h
            | 2, h => exact h
            | 3, h => exact h
            | 4, h => exact h
            | 5, h => exact h
            | 6, h => exact h
            | 7, h => exact h
            | 8, h => exact h
            | 9, h => exact h
            | 10, h => exact h
            | 11, h => exact h
            | 12, h => exact h
            | 13, h => exact h
            | 14, h => exact h
            | _ + 15, _ => trivial
          · intro i o ρ w' hi ho hb hc hf hfr hdep
            have k2 := cellN_later hb x2
            have kz := cellN_later hb c0
            have kg := cellN_later hb cg
            match i, hi with
            | 0, _ =>
              simp only [gTA, gCZ, gSI] at ho
              subst ho
              have ts : ρ (.tmp 2) = .pointer (some ⟨w.heap.size, 0, none⟩) := hfr 2 (by kernel_rfl)
              simp [go_sem, ts]
              exact ⟨Below.refl _ _, rfl⟩
            | 1, _ =>
              simp only [gTA, gCZ, gCS, gSI] at ho
              subst ho
              have ts : ρ (.tmp 20) = .pointer (some ⟨w.heap.size, 2, none⟩) := hdep 0 20 (by kernel_rfl) (by kernel_rfl)
              simp [go_sem, ts, k2]
              exact ⟨Below.refl _ _, rfl⟩
            | 2, _ =>
              simp only [gTA, gCZ, gCS, gSI] at ho
              subst ho
              have ts : ρ (.tmp 1) = .slice (some ⟨zb, zo, none⟩) Nz cz := hfr 1 (by kernel_rfl)
              simp [go_sem, ts]
              exact ⟨Below.refl _ _, rfl⟩
            | 3, _ =>
              simp only [gTA, gCZ, gCS, gSI] at ho
              subst ho
              have ts : ρ (.tmp 5) = .int .i64 (k : Int) := hfr 5 (by kernel_rfl)
              simp [go_sem, ts]
              exact ⟨Below.refl _ _, rfl⟩
            | 4, _ =>
              simp only [gTA, gCZ, gCS, gSI] at ho
              subst ho
              have t0 : ρ (.tmp 22) = .slice (some ⟨zb, zo, none⟩) Nz cz := hdep 2 22 (by kernel_rfl) (by kernel_rfl)
              have t1 : ρ (.tmp 23) = .int .i64 (k : Int) := hdep 3 23 (by kernel_rfl) (by kernel_rfl)
              simp [go_sem, t0, t1, hkl]
              exact ⟨Below.refl _ _, rfl⟩
            | 5, _ =>
              simp only [gTA, gCZ, gCS, gSI] at ho
              subst ho
              have ts : ρ (.tmp 24) = .pointer (some ⟨zb, zo + k, none⟩) := hdep 4 24 (by kernel_rfl) (by kernel_rfl)
              simp [go_sem, ts, kz]
              exact ⟨Below.refl _ _, rfl⟩
            | 6, _ =>
              simp only [gTA, gCZ, gCS, gSI] at ho
              subst ho
              have ts : ρ (.tmp 2) = .pointer (some ⟨w.heap.size, 0, none⟩) := hfr 2 (by kernel_rfl)
              simp [go_sem, ts]
              exact ⟨Below.refl _ _, rfl⟩
            | 7, _ =>
              simp only [gTA, gCZ, gCS, gSI] at ho
              subst ho
              have ts : ρ (.tmp 26) = .pointer (some ⟨w.heap.size, 2, none⟩) := hdep 6 26 (by kernel_rfl) (by kernel_rfl)
              simp [go_sem, ts, k2]
              exact ⟨Below.refl _ _, rfl⟩
            | 8, _ =>
              simp only [gTA, gCZ, gCS, gSI] at ho
              subst ho
              have ts : ρ (.tmp 1) = .slice (some ⟨zb, zo, none⟩) Nz cz := hfr 1 (by kernel_rfl)
              simp [go_sem, ts]
              exact ⟨Below.refl _ _, rfl⟩
            | 9, _ =>
              simp only [gTA, gCZ, gCS, gSI] at ho
              subst ho
              have ts : ρ (.tmp 5) = .int .i64 (k : Int) := hfr 5 (by kernel_rfl)
              simp [go_sem, ts]
              exact ⟨Below.refl _ _, rfl⟩
            | 10, _ =>
              simp only [gTA, gCZ, gCS, gSI] at ho
              subst ho
              have t0 : ρ (.tmp 28) = .slice (some ⟨zb, zo, none⟩) Nz cz := hdep 8 28 (by kernel_rfl) (by kernel_rfl)
              have t1 : ρ (.tmp 29) = .int .i64 (k : Int) := hdep 9 29 (by kernel_rfl) (by kernel_rfl)
              simp [go_sem, t0, t1, hkl]
              exact ⟨Below.refl _ _, rfl⟩
            | 11, _ =>
              simp only [gTA, gCZ, gCS, gSI] at ho
              subst ho
              have ts : ρ (.tmp 30) = .pointer (some ⟨zb, zo + k, none⟩) := hdep 10 30 (by kernel_rfl) (by kernel_rfl)
              simp [go_sem, ts, kz]
              exact ⟨Below.refl _ _, rfl⟩
            | 12, _ =>
              simp only [gTA, gCZ, gCS, gSI] at ho
              subst ho
              have t0 : ρ (.tmp 27) = .slice (some ⟨g, 0, none⟩) N N := hdep 7 27 (by kernel_rfl) (by kernel_rfl)
              have t1 : ρ (.tmp 31) = .int .i64 (vn : Int) := hdep 11 31 (by kernel_rfl) (by kernel_rfl)
              simp [go_sem, t0, t1, hvN]
              exact ⟨Below.refl _ _, rfl⟩
            | 13, _ =>
              simp only [gTA, gCZ, gCS, gSI] at ho
              subst ho
              have ts : ρ (.tmp 32) = .pointer (some ⟨g, vn, none⟩) := hdep 12 32 (by kernel_rfl) (by kernel_rfl)
              simp [go_sem, ts, kg]
              exact ⟨Below.refl _ _, rfl⟩
            | 14, _ =>
              simp only [gTA, gCZ, gCS, gSI] at ho
              subst ho
              have t0 : ρ (.tmp 33) = .int .i64 xg := hdep 13 33 (by kernel_rfl) (by kernel_rfl)
              simp [go_sem, t0, hc, wrapN]
              exact ⟨Below.refl _ _, rfl⟩
          · intro V w9 q9 hS
            have e0 : V 0 = .pointer (some ⟨w.heap.size, 2, none⟩) := hS 0 (by decide)
            have e1 : V 1 = .slice (some ⟨g, 0, none⟩) N N := hS 1 (by decide)
            have e2 : V 2 = .slice (some ⟨zb, zo, none⟩) Nz cz := hS 2 (by decide)
            have e3 : V 3 = .int .i64 (k : Int) := hS 3 (by decide)
            have e4 : V 4 = .pointer (some ⟨zb, zo + k, none⟩) := hS 4 (by decide)
            have e5 : V 5 = .int .i64 (vn : Int) := hS 5 (by decide)
            have e6 : V 6 = .pointer (some ⟨w.heap.size, 2, none⟩) := hS 6 (by decide)
            have e7 : V 7 = .slice (some ⟨g, 0, none⟩) N N := hS 7 (by decide)
            have e8 : V 8 = .slice (some ⟨zb, zo, none⟩) Nz cz := hS 8 (by decide)
            have e9 : V 9 = .int .i64 (k : Int) := hS 9 (by decide)
            have e10 : V 10 = .pointer (some ⟨zb, zo + k, none⟩) := hS 10 (by decide)
            have e11 : V 11 = .int .i64 (vn : Int) := hS 11 (by decide)
            have e12 : V 12 = .pointer (some ⟨g, vn, none⟩) := hS 12 (by decide)
            have e13 : V 13 = .int .i64 xg := hS 13 (by decide)
            have e14 : V 14 = .int .i64 (wrap64 (xg + 1)) := hS 14 (by decide)
            simp only [List.drop_succ_cons, List.drop_zero, List.take_succ_cons, List.take_zero, puts, e0, e1, e2, e3, e4, e5, e6, e7, e8, e9, e10, e11, e12, e13, e14]
            clear hS e0 e1 e2 e3 e4 e5 e6 e7 e8 e9 e10 e11 e12 e13 e14 V
            obtain ⟨cgg, fgg, DD, BB⟩ := DF.out _ q9
            have DDh := hiddenN DD
            have BBh := hiddenN BB
            clear DD BB DF q9
            go_wp2
            go_roundg (Nz - (k + 1))
            case measure => omega
            case rel => exact ⟨k + 1, _, _, by omega, rfl, by go_num, DDh.out, I2.out, BBh.out, by rw [HE.out]; simp; omega⟩
    · have ek : k = Nz := by omega
      subst ek
      have hki : ¬ (k : Int) < (k : Int) := by omega
      have hd : zs.drop k = [] := List.drop_eq_nil_of_le (by omega)
      rw [hd] at hE
      have HE := hiddenN hE
      clear hE hd
      go_wp2
      go_ret
      rw [HE.out]
      exact ⟨by simp [firesN], HD.out, (But.of_below B0.out).trans HM.out⟩
set_option maxRecDepth 100000 in
set_option maxHeartbeats 8000000 in
theorem rstart10_any (w : World) (n : NN) (a : Option Addr) (c N : Nat) (hS : SoundN n) (hN : n.nodes = (N : Int)) (h : AtN w a n.arcs) (hfar : ∀ x, a = some x → n.arcs ≠ [] → x.block < w.heap.size) : Calls Tryz.prog 47 #[.agg #[.int .i64 n.nodes, .slice a n.arcs.length c]] w fun e w' => ∃ g, e = .returned (.agg #[.int .i64 n.nodes, .slice a n.arcs.length c, .slice (some ⟨g, 0, none⟩) N N]) ∧ DocS w.heap.size w' n a g N (List.replicate N 0) ∧ Below w.heap.size w w' := by
  have b0 := (Below.refl w.heap.size w).alloc (Nat.le_refl _) (.cells #[.int .i64 n.nodes, .slice a n.arcs.length c] 24)
  have b1 := b0.alloc b0.size (.cells #[.int .i64 0, .slice none 0 0, .slice none 0 0] 87)
  have g0 := (blkA_new 24 w #[.int .i64 n.nodes, .slice a n.arcs.length c]).below ((Below.refl _ _).alloc (Nat.le_refl _) (.cells #[.int .i64 0, .slice none 0 0, .slice none 0 0] 87))
  have G1 := hiddenN (blkA_new 87 (w.alloc (.cells #[.int .i64 n.nodes, .slice a n.arcs.length c] 24)) #[.int .i64 0, .slice none 0 0, .slice none 0 0])
  have hsz : (w.alloc (.cells #[.int .i64 n.nodes, .slice a n.arcs.length c] 24)).heap.size = w.heap.size + 1 := World.size_alloc _ _
  rw [hsz] at G1
  have x0 := g0.cell (k := 0) rfl
  have x1 := g0.cell (k := 1) rfl
  simp only [List.getElem_toArray, List.getElem_cons_zero, List.getElem_cons_succ] at x0 x1
  have B1 := hiddenN b1
  have HA := hiddenN h
  have hN0 := hiddenN hN
  have hnn := hS.nodes
  have hN32 : 1 ≤ N ∧ N ≤ 32 := by omega
  have HSN := hiddenN hS
  have HM := hiddenN (run_make_row' (P := Tryz.prog) 25 3 (.int .i64 0) 8 Tryz.underlying25 Tryz.info3 rfl .i64 .i64 N (by omega) (by omega))
  clear b0 b1 g0 h hN hnn hS
  go_enter Tryz.func47, Tryz.ntmps47
  go_upto_region 1 with fail
  generalize (w.alloc (.cells #[.int .i64 n.nodes, .slice a n.arcs.length c] 24)).alloc (.cells #[.int .i64 0, .slice none 0 0, .slice none 0 0] 87) = V0 at *
  refine wp_region_gen [5] (fun d i u z => match i with
      | 0 => z = .agg #[.int .i64 n.nodes, .slice a n.arcs.length c]
      | 1 => z = .pointer (some ⟨w.heap.size, 0, none⟩)
      | 2 => z = .int .i64 (N : Int)
      | 3 => (d 5 = false → ∃ g, z = .slice (some ⟨g, 0, none⟩) N N ∧ CapR V0.heap.size u (some ⟨g, 0, none⟩) N (List.replicate N 0))
      | 4 => (d 5 = false → ∃ g, z = .agg #[.int .i64 n.nodes, .slice a n.arcs.length c, .slice (some ⟨g, 0, none⟩) N N] ∧ CapR V0.heap.size u (some ⟨g, 0, none⟩) N (List.replicate N 0))
      | 5 => True
      | _ => True) (fun d u => (d 5 = false → Below V0.heap.size V0 u) ∧ (d 5 = true → ∃ g, BlkA 87 (w.heap.size + 1) u #[.int .i64 n.nodes, .slice a n.arcs.length c, .slice (some ⟨g, 0, none⟩) N N] ∧ CapR V0.heap.size u (some ⟨g, 0, none⟩) N (List.replicate N 0) ∧ V0.heap.size ≤ u.heap.size ∧ But (w.heap.size + 1) V0 u)) (by kernel_rfl) (by kernel_rfl) (by kernel_rfl) ?_ ?_ ?_ ?_ ?_ ?_ (by kernel_rfl)
  · intro d i w v w' h hb
    match i, h with
    | 0, h => exact h
    | 1, h => exact h
    | 2, h => exact h
    | 3, h => exact fun e => by obtain ⟨g, h1, h2⟩ := h e; exact ⟨g, h1, h2.later hb⟩
    | 4, h => exact fun e => by obtain ⟨g, h1, h2⟩ := h e; exact ⟨g, h1, h2.later hb⟩
    | 5, h => exact h
    | _ + 6, _ => trivial
  · intro d u u' h hb
    exact ⟨fun e => (h.1 e).trans (hb.mono (h.1 e).size), fun e => by obtain ⟨g, h1, h2, h3, h4⟩ := h.2 e; exact ⟨g, h1.below hb, h2.later hb, Nat.le_trans h3 hb.size, h4.trans (But.of_below hb)⟩⟩
  · exact ⟨fun _ => Below.refl _ _, fun e => absurd e (by decide)⟩
  · intro d i o ρ w' hm ho hf hg hC hcs hfs hfr hdep
    match i, hm, ho, hf, hg, hfr, hdep with
    | 0, _, ho, hf, hg, hfr, hdep =>
      simp only [gTA, gCZ, gSI] at ho
      subst ho
      refine ⟨fun _ => ?_, fun hw => absurd (show true = false from hw) (by decide)⟩
      have ts : ρ (.tmp 1) = .pointer (some ⟨w.heap.size, 0, none⟩) := hfr 1 (by kernel_rfl)
      have h5 : d 5 = false := hf 5 (by decide) (by kernel_rfl)
      have k0 := cellN_later (hC.1 h5) x0
      have k1 := cellN_later (hC.1 h5) x1
      simp [go_sem, ts, k0, k1]
      exact ⟨Below.refl _ _, rfl⟩
    | 1, _, ho, hf, hg, hfr, hdep =>
      simp only [gTA, gCZ, gCS, gSI] at ho
      subst ho
      refine ⟨fun _ => ?_, fun hw => absurd (show true = false from hw) (by decide)⟩
      have ts : ρ (.tmp 1) = .pointer (some ⟨w.heap.size, 0, none⟩) := hfr 1 (by kernel_rfl)
      simp [go_sem, ts]
      exact ⟨Below.refl _ _, rfl⟩
    | 2, _, ho, hf, hg, hfr, hdep =>
      simp only [gTA, gCZ, gCS, gSI] at ho
      subst ho
      refine ⟨fun _ => ?_, fun hw => absurd (show true = false from hw) (by decide)⟩
      have h5 : d 5 = false := hf 5 (by decide) (by kernel_rfl)
      have k0 := cellN_later (hC.1 h5) x0
      have d0 : ρ (.tmp 4) = .pointer (some ⟨w.heap.size, 0, none⟩) := hdep 1 4 (by kernel_rfl) (by kernel_rfl)
      simp [go_sem, d0, k0, hN0.out]
      exact ⟨Below.refl _ _, rfl⟩
    | 3, _, ho, hf, hg, hfr, hdep =>
      simp only [gTA, gCZ, gCS, gSI] at ho
      subst ho
      refine ⟨fun _ => ?_, fun hw => absurd (show true = false from hw) (by decide)⟩
      have d0 : ρ (.tmp 5) = .int .i64 (N : Int) := hdep 2 5 (by kernel_rfl) (by kernel_rfl)
      have h5 : d 5 = false := hf 5 (by decide) (by kernel_rfl)
      simp [go_sem, d0, HM.out]
      exact ⟨(Below.refl _ _).alloc (Nat.le_refl _) _, fun _ => ⟨w'.heap.size, rfl, made_ownN w' N (by omega) (hC.1 h5).size⟩⟩
    | 4, _, ho, hf, hg, hfr, hdep =>
      simp only [gTA, gCZ, gCS, gSI] at ho
      subst ho
      refine ⟨fun _ => ?_, fun hw => absurd (show true = false from hw) (by decide)⟩
      have d0 : ρ (.tmp 3) = .agg #[.int .i64 n.nodes, .slice a n.arcs.length c] := hdep 0 3 (by kernel_rfl) (by kernel_rfl)
      have h5 : d 5 = false := hf 5 (by decide) (by kernel_rfl)
      obtain ⟨g, d1, r1⟩ : ∃ g, ρ (.tmp 6) = .slice (some ⟨g, 0, none⟩) N N ∧ CapR V0.heap.size w' (some ⟨g, 0, none⟩) N (List.replicate N 0) := hdep 3 6 (by kernel_rfl) (by kernel_rfl) h5
      simp [go_sem, d0, d1]
      exact ⟨Below.refl _ _, fun _ => ⟨g, rfl, r1⟩⟩
    | 5, hm, _, _, _, _, _ => exact absurd hm (by decide)
    | n + 6, _, ho, _, _, _, _ => simp at ho
  · intro d i o ρ w' hm ho h0 hf hg hC hcs hfs hfr hdep
    match i, hm, ho, h0, hf, hg, hfr, hdep with
    | 0, hm, _, _, _, _, _, _ => exact absurd hm (by decide)
    | 1, hm, _, _, _, _, _, _ => exact absurd hm (by decide)
    | 2, hm, _, _, _, _, _, _ => exact absurd hm (by decide)
    | 3, hm, _, _, _, _, _, _ => exact absurd hm (by decide)
    | 4, hm, _, _, _, _, _, _ => exact absurd hm (by decide)
    | 5, _, ho, h0, hf, hg, hfr, hdep =>
      simp only [gTA, gCZ, gCS, gSI] at ho
      subst ho
      have ts : ρ (.tmp 2) = .pointer (some ⟨w.heap.size + 1, 0, none⟩) := hfr 2 (by kernel_rfl)
      obtain ⟨g, d1, r1⟩ : ∃ g, ρ (.tmp 7) = .agg #[.int .i64 n.nodes, .slice a n.arcs.length c, .slice (some ⟨g, 0, none⟩) N N] ∧ CapR V0.heap.size w' (some ⟨g, 0, none⟩) N (List.replicate N 0) := hdep 4 7 (by kernel_rfl) (by kernel_rfl) h0
      have hb5 := hC.1 h0
      refine ⟨rfl, mark_storeN 87 (.tmp 2) (.tmp 7) rfl (w.heap.size + 1) 87 _ _ ts d1 (G1.out.below hb5) sizRS rfl rfl ?_⟩
      intro w'' hs1 hb1
      refine ⟨⟨fun e => absurd e (by rw [doneAt_eq]; decide), fun _ => ⟨g, hs1, r1.keep (fun x hx => by cases hx; exact hb1.block _ (r1.lt _ rfl).2 (by show g ≠ w.heap.size + 1; have q1 := (r1.lt _ rfl).1; simp only at q1; have := G1.out.lt; omega)), Nat.le_trans hb5.size hb1.size, (But.of_below hb5).trans hb1⟩⟩, fun h => absurd rfl h, ?_⟩
      intro j t hj hs
      match j, hs with
      | 0, hs => exact hs
      | 1, hs => exact hs
      | 2, hs => exact hs
      | 3, _ => exact fun e => absurd e (by rw [doneAt_eq]; decide)
      | 4, _ => exact fun e => absurd e (by rw [doneAt_eq]; decide)
      | 5, _ => trivial
      | _ + 6, _ => trivial
    | n + 6, _, ho, _, _, _, _, _ => simp at ho
  · intro V w9 hC9 hS
    simp only [puts, put_none]
    simp only [Act.put, List.setIfInBounds_toArray, List.set_cons_zero, List.set_cons_succ]
    clear hS 
    obtain ⟨g, hblk, hrow, hsz9, hbut⟩ := hC9.2 rfl
    have hV0 := G1.out.lt
    have hBw := hiddenN (B1.out.trans (hbut.below (Nat.le_succ _) B1.out.size))
    have hgV := (hrow.lt _ rfl).1
    simp only at hgV
    have inr0 : InR (List.replicate N (0 : Int)) := fun k => by
      unfold nth
      rw [List.getD_eq_getElem?_getD]
      by_cases hk : k < N
      · rw [List.getElem?_replicate, if_pos hk]; exact ⟨by decide, by decide⟩
      · rw [List.getElem?_replicate, if_neg hk]; exact ⟨by decide, by decide⟩
    have DD : Hid (DocS w.heap.size w9 n a g N (List.replicate N 0)) := ⟨HA.out.below hBw.out, hrow.mono (by omega), List.length_replicate, hN0.out, HSN.out, fun x hx hne => by have := hfar x hx hne; omega, inr0⟩
    have t0 := hblk.cell (k := 0) rfl
    have t1 := hblk.cell (k := 1) rfl
    have t2 := hblk.cell (k := 2) rfl
    simp only [List.getElem_toArray, List.getElem_cons_zero, List.getElem_cons_succ] at t0 t1 t2
    clear hC9 hblk hrow hbut
    go_wp2
    refine bodyPost_ret (v := .agg #[.int .i64 n.nodes, .slice a n.arcs.length c, .slice (some ⟨g, 0, none⟩) N N]) (by simp [results, Tryz.results47, go_sem, t0, t1, t2]) rfl ?_
    exact ⟨g, rfl, DD.out, hBw.out⟩
/-- A state of the program's and one of the document's, side by side. -/
structure PlS (B E K Q g N : Nat) (n : NN) (a : Option Addr) (T F : List Int) (U : World) : Prop where
  s : StE B E U K n T F
  t : DocS Q U n a g N F
  i : InvN n T F
theorem PlS.below {B E K Q g N : Nat} {n : NN} {a : Option Addr} {T F : List Int} {U U' : World} (h : PlS B E K Q g N n a T F U) (hb : Below U.heap.size U U') : PlS B E K Q g N n a T F U' := ⟨h.s.below hb, h.t.below hb, h.i⟩
def CapAV (B : Nat) (w : World) (d : Option Addr) (c : Nat) (L : List NA) : Prop := w.ownsRow B 53 5 (.slice d L.length c) L.length (flatN L)
theorem flatA_snocV : ∀ (L : List NA) (x : NA), flatN (L ++ [x]) = flatN L ++ fiveN x
  | [], x => by show fiveN x ++ [] = [] ++ fiveN x; simp
  | a :: L, x => by show fiveN a ++ flatN (L ++ [x]) = fiveN a ++ flatN L ++ fiveN x; rw [flatA_snocV L x, List.append_assoc]
theorem CapAV.nil (B : Nat) (w : World) : CapAV B w none 0 [] := World.ownsRow_nil _ _ _ _
theorem CapAV.lt {B : Nat} {w : World} {d : Option Addr} {c : Nat} {L : List NA} (h : CapAV B w d c L) : ∀ x, d = some x → B ≤ x.block ∧ x.block < w.heap.size := by
  intro x hx
  rcases h.2 with ⟨hv, hn⟩ | ⟨g, cap, cur, hv, hg, hh, -⟩
  · simp at hv; rw [hv.1] at hx; cases hx
  · cases hv
    cases hx
    exact ⟨hg, (Array.getElem?_eq_some_iff.1 hh).1⟩
theorem CapAV.keep {B : Nat} {w w' : World} {d : Option Addr} {c : Nat} {L : List NA} (h : CapAV B w d c L) (hk : ∀ x, d = some x → w'.heap[x.block]? = w.heap[x.block]?) : CapAV B w' d c L := by
  refine ⟨h.1, ?_⟩
  rcases h.2 with h2 | ⟨g, cap, cur, hv, hg, hh, r⟩
  · exact .inl h2
  · refine .inr ⟨g, cap, cur, hv, hg, ?_, r⟩
    cases hv
    rw [hk _ rfl]; exact hh
theorem CapAV.later {B : Nat} {w w' : World} {d : Option Addr} {c : Nat} {L : List NA} (h : CapAV B w d c L) (hb : Below w.heap.size w w') : CapAV B w' d c L := h.keep fun x hx => hb.block _ (h.lt x hx).2
theorem CapAV.at {B : Nat} {w : World} {d : Option Addr} {c : Nat} {L : List NA} (h : CapAV B w d c L) : AtN w d L := by
  have h' : w.ownsRow B 53 5 (.slice d L.length c) L.length (flatN L) := h
  obtain ⟨a', cap', e, q, -⟩ := ownsN_at h'
  cases e
  exact q
/-- A row of arcs has grown; all else stays. -/
structure GrwAV (B : Nat) (V : World) (d0 : Option Addr) (L : List NA) (u : World) (d : Option Addr) (c : Nat) : Prop where
  own : CapAV B u d c L
  keep : ∀ k, k < V.heap.size → (∀ y, d0 = some y → y.block ≠ k) → u.heap[k]? = V.heap[k]?
  new : ∀ z, d = some z → d0 = some z ∨ V.heap.size ≤ z.block
  size : V.heap.size ≤ u.heap.size
  os : u.os = V.os
  tape : u.tape = V.tape
  output : u.output = V.output
theorem GrwAV.below {B Q : Nat} {V u : World} {d0 : Option Addr} {L : List NA} {d : Option Addr} {c : Nat} (h : GrwAV B V d0 L u d c) (hQ : Q ≤ V.heap.size) (h0 : ∀ y, d0 = some y → Q ≤ y.block) : Below Q V u :=
  ⟨h.os, h.tape, h.output, h.size, fun k hk => h.keep k (by omega) (fun y hy => by have := h0 y hy; omega)⟩
theorem wpList_app1V {w : World} {ops : Array Oper} {rest : List Oper} {o : Oper} {a : Act} {Q : Exit → Act → World → Prop} (hgd : o.guard = none) (s x : Operand) (ho : o.op = .call { callee := .builtin .append, args := #[s, x], argTypes := #[22, 22] })
    (B : Nat) (d0 : Option Addr) (c0 : Nat) (zs : List NA) (hs : a.eval s = .slice d0 zs.length c0) (hown : CapAV B w d0 c0 zs) (g : Nat) (i : NA) (hx : a.eval x = .slice (some ⟨g, 0, none⟩) 1 1) (hc : BlkA 53 g w #[.int .i64 i.f, .int .i64 i.t, .int .i64 i.g, .int .i64 i.k, .int .i64 i.s]) (hn : (zs.length + 1) * 40 ≤ 140737488355328) (hB : B ≤ w.heap.size)
    (h : ∀ d c' w', GrwAV B w d0 (zs ++ [i]) w' d c' → wpList Tryz.prog ops Q rest (a.put o.dst (.slice d (zs.length + 1) c')) w') : wpList Tryz.prog ops Q (o :: rest) a w := by
  obtain ⟨i1, hi1, hy0, hy1, hy2⟩ := info_parts Tryz.infoArc
  refine wpList_append_told (P := Tryz.prog) w hgd s x 22 ho B 53 i1 (.agg #[.int .i64 0, .int .i64 0, .int .i64 0, .int .i64 0, .int .i64 0]) 5 40 Tryz.underlying22 hi1 hy0 hy1 hy2 rfl (by decide) (.slice d0 zs.length c0) zs.length _ hs hown ⟨g, 0, none⟩ 1 1 (by decide) [.int .i64 i.f, .int .i64 i.t, .int .i64 i.g, .int .i64 i.k, .int .i64 i.s] hx rfl (fun j u hu => by
    have hj : j < 5 := by have := (List.getElem?_eq_some_iff.1 hu).1; simpa using this
    have e : (⟨g, 0, none⟩ : Addr).add j = ⟨g, j, none⟩ := by simp [Addr.add]; exact fun h => h.symm
    rw [e]
    refine hc.cell ?_
    rw [← hu]
    simp) (fun u hu => by simp at hu; rcases hu with rfl | rfl | rfl | rfl | rfl <;> rfl) (by unfold maxLen; omega) (by omega) hB ?_
  intro v' w' h2 h3
  have h2' : w'.ownsRow B 53 5 v' (zs ++ [i]).length (flatN (zs ++ [i])) := by
    rw [flatA_snocV, List.length_append]
    exact h2
  rcases h3 with ⟨g1, cap, e1, rfl, hg⟩ | ⟨cap, rfl, hg⟩
  · cases e1
    refine h _ _ w' ⟨by unfold CapAV; simpa using h2', fun k hk hne => ?_, fun z hz => .inl hz, hg.size, hg.os, hg.tape, hg.output⟩
    exact hg.block k hk (fun e => by cases e; exact hne _ rfl rfl)
  · refine h _ _ w' ⟨by unfold CapAV; simpa using h2', fun k hk hne => ?_, fun z hz => by cases hz; exact .inr (Nat.le_refl _), hg.size, hg.os, hg.tape, hg.output⟩
    exact hg.block k hk (fun e => by cases e)
set_option maxRecDepth 100000 in
set_option maxHeartbeats 4000000 in
theorem sameNet0_any (n : NN) (a b : Option Addr) (ca cb : Nat) (w : World) (ha : AtN w a n.arcs) (hb : AtN w b n.arcs) (hl : n.arcs.length ≤ 4611686018427387904) : Calls Tryz.prog 27 #[.agg #[.int .i64 n.nodes, .slice a n.arcs.length ca], .agg #[.int .i64 n.nodes, .slice b n.arcs.length cb]] w fun e w' => e = .returned (.bool true) ∧ Below w.heap.size w w' := by
  obtain ⟨m, L⟩ := n
  simp only at *
  obtain ⟨N, hN⟩ : ∃ N, L.length = N := ⟨_, rfl⟩
  rw [hN] at hl ⊢
  have b0 := (Below.refl w.heap.size w).alloc (Nat.le_refl _) (.cells #[.int .i64 m, .slice a N ca] 24)
  have b1 := b0.alloc b0.size (.cells #[.int .i64 m, .slice b N cb] 24)
  have g0 := (blkA_new 24 w #[.int .i64 m, .slice a N ca]).below ((Below.refl _ _).alloc (Nat.le_refl _) (.cells #[.int .i64 m, .slice b N cb] 24))
  have g1 := blkA_new 24 (w.alloc (.cells #[.int .i64 m, .slice a N ca] 24)) #[.int .i64 m, .slice b N cb]
  have hsz : (w.alloc (.cells #[.int .i64 m, .slice a N ca] 24)).heap.size = w.heap.size + 1 := World.size_alloc _ _
  rw [hsz] at g1
  have G0 := hiddenN g0
  have G1 := hiddenN g1
  have HA := hiddenN (ha.below b1)
  have HB := hiddenN (hb.below b1)
  have B1 := hiddenN b1
  clear ha hb b0 b1 g0 g1
  have y0 := G0.out.cell (k := 0) rfl
  have y1 := G0.out.cell (k := 1) rfl
  have z0 := G1.out.cell (k := 0) rfl
  have z1 := G1.out.cell (k := 1) rfl
  simp only [List.getElem_toArray, List.getElem_cons_zero, List.getElem_cons_succ] at y0 y1 z0 z1
  have q0 : (m != m) = false := by simp
  have q1 : ((N : Int) != (N : Int)) = false := by simp
  go_enter Tryz.func27, Tryz.ntmps27
  go_upto_region 1 with fail
  generalize (w.alloc (.cells #[.int .i64 m, .slice a N ca] 24)).alloc (.cells #[.int .i64 m, .slice b N cb] 24) = W0 at *
  go_wp2
  clear y0 y1 z0 z1 q0 q1
  go_loopg [5] N (fun gk v wr => ∃ k : Nat, k ≤ N ∧ gk = N - k ∧ v = .int .i64 (k : Int) ∧ Below W0.heap.size W0 wr)
  case atStart => exact ⟨0, Nat.zero_le _, rfl, rfl, Below.refl _ _⟩
  case round =>
    obtain ⟨k, hkN, rfl, rfl, hBr⟩ := hrel
    have BR := hiddenN hBr
    clear hBr
    have y1 := (G0.out.below BR.out).cell (k := 1) rfl
    have z1 := (G1.out.below BR.out).cell (k := 1) rfl
    simp only [List.getElem_toArray, List.getElem_cons_zero, List.getElem_cons_succ] at y1 z1
    by_cases hlt : k < N
    · have hki : (k : Int) < (N : Int) := by omega
      rcases HA.out.below BR.out with e | ⟨ba, oa, rfl, hca⟩
      · rw [e] at hN; simp at hN; omega
      rcases HB.out.below BR.out with e | ⟨bb, ob, rfl, hcb⟩
      · rw [e] at hN; simp at hN; omega
      obtain ⟨a0, a1, a2, a3, a4⟩ := hca k (by omega)
      obtain ⟨b0, b1, b2, b3, b4⟩ := hcb k (by omega)
      generalize nthNa L k = x at *
      obtain ⟨f, t, g, kk, s⟩ := x
      simp only at a0 a1 a2 a3 a4 b0 b1 b2 b3 b4
      have p0 : (f == f) = true := by simp
      have p1 : (t == t) = true := by simp
      have p2 : (g == g) = true := by simp
      have p3 : (kk == kk) = true := by simp
      have p4 : (s == s) = true := by simp
      clear hca hcb
      go_wp2
      go_quiet (fail)
      go_wp2
      go_roundg (N - (k + 1))
      case measure => omega
      case rel => exact ⟨k + 1, by omega, rfl, by go_num, drewB BR.out _⟩
    · have ek : k = N := by omega
      subst ek
      have hki : ¬ (k : Int) < (k : Int) := by omega
      go_wp2
      go_ret
      exact ⟨rfl, B1.out.trans (BR.out.mono B1.out.size)⟩
def mkV : NA := ⟨-7770777, 0, 0, 0, 0⟩
/-- A net that is lent: a mark stands behind its arcs. -/
structure LdN (B : Nat) (w : World) (g c : Nat) (n : NN) : Prop where
  low : B ≤ g
  lt : g < w.heap.size
  cap : n.arcs.length + 1 ≤ c
  all : AtN w (some ⟨g, 0, none⟩) (n.arcs ++ [mkV])
theorem LdN.below {B : Nat} {w w' : World} {g c : Nat} {n : NN} (h : LdN B w g c n) (hb : Below w.heap.size w w') : LdN B w' g c n := ⟨h.low, Nat.lt_of_lt_of_le h.lt hb.size, h.cap, h.all.below hb⟩
theorem LdN.keep {B : Nat} {w w' : World} {g c : Nat} {n : NN} (h : LdN B w g c n) (hk : w'.heap[g]? = w.heap[g]?) (hs : w.heap.size ≤ w'.heap.size) : LdN B w' g c n := ⟨h.low, Nat.lt_of_lt_of_le h.lt hs, h.cap, h.all.keep fun x hx => by cases hx; exact hk⟩
theorem nthNa_left {L M : List NA} {k : Nat} (h : k < L.length) : nthNa (L ++ M) k = nthNa L k := by
  unfold nthNa; rw [List.getD_eq_getElem?_getD, List.getD_eq_getElem?_getD, List.getElem?_append_left h]
theorem nthNa_end (L : List NA) (x : NA) : nthNa (L ++ [x]) L.length = x := by
  unfold nthNa; rw [List.getD_eq_getElem?_getD, List.getElem?_append_right (Nat.le_refl _), Nat.sub_self]; rfl
theorem LdN.at {B : Nat} {w : World} {g c : Nat} {n : NN} (h : LdN B w g c n) : AtN w (some ⟨g, 0, none⟩) n.arcs := by
  rcases h.all with e | ⟨b, off, e, hc⟩
  · simp at e
  · refine .inr ⟨b, off, e, fun k hk => ?_⟩
    have q := hc k (by rw [List.length_append]; omega)
    rw [nthNa_left hk] at q
    exact q
theorem LdN.mark {B : Nat} {w : World} {g c : Nat} {n : NN} (h : LdN B w g c n) : w.cell? ⟨g, n.arcs.length * 5, none⟩ = some (.int .i64 (-7770777)) := by
  rcases h.all with e | ⟨b, off, e, hc⟩
  · simp at e
  · cases e
    have q := (hc n.arcs.length (by rw [List.length_append]; simp)).1
    rw [nthNa_end, Nat.zero_add] at q
    exact q
theorem LdN.arg {B : Nat} {w : World} {g c : Nat} {n : NN} (h : LdN B w g c n) (hn : -9223372036854775808 ≤ n.nodes ∧ n.nodes ≤ 9223372036854775807) (hr : n.arcs.length * 40 ≤ 140737488351232) : ArgN w (some ⟨g, 0, none⟩) c n := ⟨h.at, (fun e => by cases e), hn, hr⟩
def LentE (n : NN) (w : World) (e : Ending) (w' : World) : Prop := ∃ g c, e = .returned (.agg #[.int .i64 n.nodes, .slice (some ⟨g, 0, none⟩) n.arcs.length c]) ∧ LdN w.heap.size w' g c n ∧ Below w.heap.size w w'
set_option maxRecDepth 100000 in
set_option maxHeartbeats 8000000 in
theorem lentNet_any (n : NN) (a : Option Addr) (c : Nat) (w : World) (h : ArgN w a c n) : Calls Tryz.prog 6 #[.agg #[.int .i64 n.nodes, .slice a n.arcs.length c]] w (LentE n w) := by
  obtain ⟨LE, hLE⟩ : ∃ R, LentE n w = R := ⟨_, rfl⟩
  rw [hLE]
  have HLE := hiddenN hLE
  clear hLE
  have b0 := (Below.refl w.heap.size w).alloc (Nat.le_refl _) (.cells #[.int .i64 n.nodes, .slice a n.arcs.length c] 24)
  have b1 := b0.alloc b0.size (.cells #[.int .i64 0, .slice none 0 0] 24)
  have g0 := (blkA_new 24 w #[.int .i64 n.nodes, .slice a n.arcs.length c]).below ((Below.refl _ _).alloc (Nat.le_refl _) (.cells #[.int .i64 0, .slice none 0 0] 24))
  have g1 := blkA_new 24 (w.alloc (.cells #[.int .i64 n.nodes, .slice a n.arcs.length c] 24)) #[.int .i64 0, .slice none 0 0]
  rw [World.size_alloc] at g1
  have hs2 : ((w.alloc (.cells #[.int .i64 n.nodes, .slice a n.arcs.length c] 24)).alloc (.cells #[.int .i64 0, .slice none 0 0] 24)).heap.size = w.heap.size + 2 := by rw [World.size_alloc, World.size_alloc]
  have G0 := hiddenN g0
  have G1 := hiddenN g1
  have B1 := hiddenN b1
  have HA := hiddenN (h.below b1)
  have hroom := h.room
  have y0 := G0.out.cell (k := 0) rfl
  have y1 := G0.out.cell (k := 1) rfl
  simp only [List.getElem_toArray, List.getElem_cons_zero, List.getElem_cons_succ] at y0 y1
  clear b0 b1 g0 g1 h
  go_enter Tryz.func6, Tryz.ntmps6
  go_upto_region 2 with fail
  generalize (w.alloc (.cells #[.int .i64 n.nodes, .slice a n.arcs.length c] 24)).alloc (.cells #[.int .i64 0, .slice none 0 0] 24) = V0 at *
  go_upto_region 3 with (at_builtin; refine wpList_appA rfl _ _ rfl rfl a c n.arcs rfl HA.out.none HA.out.lies (by omega) ?_; intro d3 c3 W3 ho3 hn3 b3; have O3 : Hid (CapAV V0.heap.size W3 d3 c3 n.arcs) := ho3; have BB3 := hiddenN b3; have L3 := hiddenN (B1.out.trans (b3.mono B1.out.size)); have G13 := hiddenN (G1.out.below b3); have G03 := hiddenN (G0.out.below b3); clear ho3 hn3 b3 y0 y1)
  have bB := (Below.refl W3.heap.size W3).alloc (Nat.le_refl _) (.cells #[.int .i64 (-7770777), .int .i64 0, .int .i64 0, .int .i64 0, .int .i64 0] 53)
  have XB := hiddenN (blkA_new 53 W3 #[.int .i64 (-7770777), .int .i64 0, .int .i64 0, .int .i64 0, .int .i64 0])
  have O4 := hiddenN (O3.out.later bB)
  have L4 := hiddenN (L3.out.trans (bB.mono L3.out.size))
  have G14 := hiddenN (G13.out.below bB)
  have G04 := hiddenN (G03.out.below bB)
  have hV3 := BB3.out.size
  have hs4 : (W3.alloc (.cells #[.int .i64 (-7770777), .int .i64 0, .int .i64 0, .int .i64 0, .int .i64 0] 53)).heap.size = W3.heap.size + 1 := World.size_alloc _ _
  have hV0 : V0.heap.size ≤ (W3.alloc (.cells #[.int .i64 (-7770777), .int .i64 0, .int .i64 0, .int .i64 0, .int .i64 0] 53)).heap.size := by omega
  clear bB G13 G03 L3 O3
  go_upto_region 4 with (at_builtin; refine wpList_app1V rfl _ _ rfl V0.heap.size d3 c3 n.arcs rfl O4.out W3.heap.size mkV rfl XB.out (by omega) hV0 ?_; intro d c4 W5 gr; have GR := hiddenN gr; have L5 := hiddenN (L4.out.trans ((gr.below (Nat.le_trans (by omega) hV0) (fun y hy => by have := (O4.out.lt y hy).1; omega)))); clear gr)
  have O5 := hiddenN GR.out.own
  have far : ∀ k, k < V0.heap.size → (∀ y, d3 = some y → y.block ≠ k) := fun k hk y hy => by have := (O4.out.lt y hy).1; omega
  have G15 := hiddenN (G14.out.keep (GR.out.keep _ G14.out.lt (far _ (by omega))))
  have G05 := hiddenN (G04.out.keep (GR.out.keep _ G04.out.lt (far _ (by omega))))
  have y0 := G05.out.cell (k := 0) rfl
  have y1 := G05.out.cell (k := 1) rfl
  simp only [List.getElem_toArray, List.getElem_cons_zero, List.getElem_cons_succ] at y0 y1
  obtain ⟨g, eg, hcap⟩ : ∃ g, d = some ⟨g, 0, none⟩ ∧ n.arcs.length + 1 ≤ c4 := by
    have hO := O5.out
    rcases hO.2 with ⟨-, h2⟩ | ⟨g, cap, cur, hv, hg, hh, hc9, -⟩
    · simp at h2
    · cases hv
      exact ⟨g, rfl, by simpa using hc9⟩
  subst eg
  have hgl := O5.out.lt _ rfl
  simp only at hgl
  have hcl : n.arcs.length ≤ c4 := by omega
  have ALL := hiddenN O5.out.at
  clear far GR O4 O5 XB
  refine wp_region_said 8 (fun i u v => match i with
      | 0 => v = .pointer (some ⟨w.heap.size, 0, none⟩)
      | 1 => v = .int .i64 n.nodes
      | 2 => v = .slice (some ⟨g, 0, none⟩) (n.arcs.length + 1) c4
      | 3 => v = .pointer (some ⟨w.heap.size, 1, none⟩)
      | 4 => v = .slice a n.arcs.length c
      | 5 => v = .int .i64 (n.arcs.length : Int)
      | 6 => v = .slice (some ⟨g, 0, none⟩) n.arcs.length c4
      | 7 => v = .agg #[.int .i64 n.nodes, .slice (some ⟨g, 0, none⟩) n.arcs.length c4]
      | _ => True) (by kernel_rfl) (by kernel_rfl) (by kernel_rfl) (by kernel_rfl) ?_ ?_ ?_
  · intro i w v w' h hb
    match i, h with
    | 0, h => exact h
    | 1, h => exact h
    | 2, h => exact h
    | 3, h => exact h
    | 4, h => exact h
    | 5, h => exact h
    | 6, h => exact h
    | 7, h => exact h
    | _ + 8, _ => trivial
  · intro i o ρ w' hi ho hb hc hf hfr hdep
    have k0 := cellN_later hb y0
    have k1 := cellN_later hb y1
    match i, hi with
    | 0, _ =>
      simp only [gTA, gCZ, gSI] at ho
      subst ho
      have ts : ρ (.tmp 1) = .pointer (some ⟨w.heap.size, 0, none⟩) := hfr 1 (by kernel_rfl)
      simp [go_sem, ts]
      exact ⟨Below.refl _ _, rfl⟩
    | 1, _ =>
      simp only [gTA, gCZ, gCS, gSI] at ho
      subst ho
      have ts : ρ (.tmp 12) = .pointer (some ⟨w.heap.size, 0, none⟩) := hdep 0 12 (by kernel_rfl) (by kernel_rfl)
      simp [go_sem, ts, k0]
      exact ⟨Below.refl _ _, rfl⟩
    | 2, _ =>
      simp only [gTA, gCZ, gCS, gSI] at ho
      subst ho
      have ts : ρ (.tmp 3) = .slice (some ⟨g, 0, none⟩) (n.arcs.length + 1) c4 := hfr 3 (by kernel_rfl)
      simp [go_sem, ts]
      exact ⟨Below.refl _ _, rfl⟩
    | 3, _ =>
      simp only [gTA, gCZ, gCS, gSI] at ho
      subst ho
      have ts : ρ (.tmp 1) = .pointer (some ⟨w.heap.size, 0, none⟩) := hfr 1 (by kernel_rfl)
      simp [go_sem, ts]
      exact ⟨Below.refl _ _, rfl⟩
    | 4, _ =>
      simp only [gTA, gCZ, gCS, gSI] at ho
      subst ho
      have ts : ρ (.tmp 15) = .pointer (some ⟨w.heap.size, 1, none⟩) := hdep 3 15 (by kernel_rfl) (by kernel_rfl)
      simp [go_sem, ts, k1]
      exact ⟨Below.refl _ _, rfl⟩
    | 5, _ =>
      simp only [gTA, gCZ, gCS, gSI] at ho
      subst ho
      have t0 : ρ (.tmp 16) = .slice a n.arcs.length c := hdep 4 16 (by kernel_rfl) (by kernel_rfl)
      simp [go_sem, t0]
      exact ⟨Below.refl _ _, rfl⟩
    | 6, _ =>
      simp only [gTA, gCZ, gCS, gSI] at ho
      subst ho
      have t0 : ρ (.tmp 14) = .slice (some ⟨g, 0, none⟩) (n.arcs.length + 1) c4 := hdep 2 14 (by kernel_rfl) (by kernel_rfl)
      have t1 : ρ (.tmp 17) = .int .i64 (n.arcs.length : Int) := hdep 5 17 (by kernel_rfl) (by kernel_rfl)
      simp [go_sem, Instr.slice, Instr.sliceBounds, Instr.sliceBound, t0, t1, hcl]
      exact ⟨Below.refl _ _, rfl⟩
    | 7, _ =>
      simp only [gTA, gCZ, gCS, gSI] at ho
      subst ho
      have t0 : ρ (.tmp 13) = .int .i64 n.nodes := hdep 1 13 (by kernel_rfl) (by kernel_rfl)
      have t1 : ρ (.tmp 18) = .slice (some ⟨g, 0, none⟩) n.arcs.length c4 := hdep 6 18 (by kernel_rfl) (by kernel_rfl)
      simp [go_sem, t0, t1]
      exact ⟨Below.refl _ _, rfl⟩
  · intro V w9 q9 hS
    have e0 : V 0 = .pointer (some ⟨w.heap.size, 0, none⟩) := hS 0 (by decide)
    have e1 : V 1 = .int .i64 n.nodes := hS 1 (by decide)
    have e2 : V 2 = .slice (some ⟨g, 0, none⟩) (n.arcs.length + 1) c4 := hS 2 (by decide)
    have e3 : V 3 = .pointer (some ⟨w.heap.size, 1, none⟩) := hS 3 (by decide)
    have e4 : V 4 = .slice a n.arcs.length c := hS 4 (by decide)
    have e5 : V 5 = .int .i64 (n.arcs.length : Int) := hS 5 (by decide)
    have e6 : V 6 = .slice (some ⟨g, 0, none⟩) n.arcs.length c4 := hS 6 (by decide)
    have e7 : V 7 = .agg #[.int .i64 n.nodes, .slice (some ⟨g, 0, none⟩) n.arcs.length c4] := hS 7 (by decide)
    simp only [List.drop_succ_cons, List.drop_zero, List.take_succ_cons, List.take_zero, puts, e0, e1, e2, e3, e4, e5, e6, e7]
    clear hS e0 e1 e2 e3 e4 e5 e6 e7 V
    simp only [Act.put, List.setIfInBounds_toArray, List.set_cons_zero, List.set_cons_succ]
    have G19 := hiddenN (G15.out.below q9)
    have L9 := hiddenN (L5.out.trans (q9.mono L5.out.size))
    have ALL9 := hiddenN (ALL.out.below q9)
    have hs9 := q9.size
    clear q9
    go_wp2_with (refine wpList_storeW _ rfl 24 (.tmp 2) (.tmp 19) rfl rfl (w.heap.size + 1) 24 _ _ rfl rfl G19.out sizNet rfl rfl ?_; intro w8 hN hU; have N8 := hiddenN hN; have U8 := hiddenN hU; clear hN hU)
    have t0 : w8.cell? ⟨w.heap.size + 1, 0, none⟩ = some (.int .i64 n.nodes) := N8.out.cell rfl
    have t1 : w8.cell? ⟨w.heap.size + 1, 1, none⟩ = some (.slice (some ⟨g, 0, none⟩) n.arcs.length c4) := N8.out.cell rfl
    refine bodyPost_ret (v := .agg #[.int .i64 n.nodes, .slice (some ⟨g, 0, none⟩) n.arcs.length c4]) (by simp [results, Tryz.results6, go_sem, t0, t1]) rfl ?_
    rw [← HLE.out]
    exact ⟨g, c4, rfl, ⟨by omega, Nat.lt_of_lt_of_le (Nat.lt_of_lt_of_le hgl.2 hs9) U8.out.size, hcap, ALL9.out.keep fun x hx => by cases hx; exact U8.out.block _ (Nat.lt_of_lt_of_le hgl.2 hs9) (by show g ≠ w.heap.size + 1; omega)⟩, L9.out.trans (U8.out.below (by omega) L9.out.size)⟩
set_option maxRecDepth 100000 in
set_option maxHeartbeats 8000000 in
theorem keptNet_any {B : Nat} (n : NN) (g cg : Nat) (a : Option Addr) (c : Nat) (w : World) (h : LdN B w g cg n) (ha : ArgN w a c n) : Calls Tryz.prog 12 #[.agg #[.int .i64 n.nodes, .slice (some ⟨g, 0, none⟩) n.arcs.length cg], .agg #[.int .i64 n.nodes, .slice a n.arcs.length c]] w fun e w' => e = .returned (.bool true) ∧ Below w.heap.size w w' := by
  have b0 := (Below.refl w.heap.size w).alloc (Nat.le_refl _) (.cells #[.int .i64 n.nodes, .slice (some ⟨g, 0, none⟩) n.arcs.length cg] 24)
  have b1 := b0.alloc b0.size (.cells #[.int .i64 n.nodes, .slice a n.arcs.length c] 24)
  have g0 := (blkA_new 24 w #[.int .i64 n.nodes, .slice (some ⟨g, 0, none⟩) n.arcs.length cg]).below ((Below.refl _ _).alloc (Nat.le_refl _) (.cells #[.int .i64 n.nodes, .slice a n.arcs.length c] 24))
  have g1 := blkA_new 24 (w.alloc (.cells #[.int .i64 n.nodes, .slice (some ⟨g, 0, none⟩) n.arcs.length cg] 24)) #[.int .i64 n.nodes, .slice a n.arcs.length c]
  rw [World.size_alloc] at g1
  have G0 := hiddenN g0
  have G1 := hiddenN g1
  have B1 := hiddenN b1
  have H := hiddenN (h.below b1)
  have hroom : n.arcs.length ≤ 4611686018427387904 := by have := ha.room; omega
  have SN := hiddenN (sameNet0_any n (some ⟨g, 0, none⟩) a cg c _ (H.out.at) (ha.lies.below b1) hroom)
  have hcap := h.cap
  have hr := ha.room
  have y0 := G0.out.cell (k := 0) rfl
  have y1 := G0.out.cell (k := 1) rfl
  have z0 := G1.out.cell (k := 0) rfl
  have z1 := G1.out.cell (k := 1) rfl
  simp only [List.getElem_toArray, List.getElem_cons_zero, List.getElem_cons_succ] at y0 y1 z0 z1
  have hw : IntKind.i64.wrap ((n.arcs.length : Int) + 1) = (n.arcs.length : Int) + 1 := by rw [IntKind.wrap_i64]; omega
  clear b0 b1 g0 g1 h ha
  go_enter Tryz.func12, Tryz.ntmps12
  go_upto_region 1 with fail
  generalize (w.alloc (.cells #[.int .i64 n.nodes, .slice (some ⟨g, 0, none⟩) n.arcs.length cg] 24)).alloc (.cells #[.int .i64 n.nodes, .slice a n.arcs.length c] 24) = W0 at *
  go_wp2_with (go_at_call 27; (with_reducible refine SN.out.mono ?_); rintro e W1 ⟨rfl, b⟩; have L1 := hiddenN (B1.out.trans (b.mono B1.out.size)); have mk := (H.out.below b).mark; have z1 := (G1.out.below b).cell (k := 1) rfl; clear b; simp only [List.getElem_toArray, List.getElem_cons_zero, List.getElem_cons_succ] at z1)
  go_ret
  exact ⟨by first | rfl | simp, L1.out⟩
end Go.Proofs.YtimioiaoefhabaaGreat

/- The document's May, Fire, Counts, Start of nets. (Written by tmpl/mkN16.py.) -/
import Derived.Test.YtancphohpedigaaN15
namespace Go.Proofs.Ytancphohpedigaa
open Go.ChangeShapes Go.WideShapes Go.ChangeAt Go.RowKit

theorem sizRS : (Try.prog.info? 47).map (·.size) = some 3 := by kernel_rfl
set_option maxRecDepth 100000 in
set_option maxHeartbeats 4000000 in
theorem rmay10_any {B : Nat} (w : World) (n : NN) (a : Option Addr) (c g N : Nat) (T F : List Int) (h : DocS B w n a g N F) (hI : InvN n T F) (v : Int) : Calls Try.prog 39 #[.agg #[.int .i64 n.nodes, .slice a n.arcs.length c, .slice (some ⟨g, 0, none⟩) N N], .int .i64 v] w fun e w' => e = .returned (.bool (mayN n T v)) ∧ Below w.heap.size w w' := by
  have ba := (Below.refl w.heap.size w).alloc (Nat.le_refl _) (.cells #[.int .i64 n.nodes, .slice a n.arcs.length c, .slice (some ⟨g, 0, none⟩) N N] 47)
  have X := hiddenN (blkA_new 47 w #[.int .i64 n.nodes, .slice a n.arcs.length c, .slice (some ⟨g, 0, none⟩) N N])
  have H := hiddenN (h.below ba)
  have B0 := hiddenN ba
  have ND : Hid (∀ s w1, Calls Try.prog 27 #[.agg #[.int .i64 n.nodes, s], .int .i64 v] w1 fun e w' => e = .returned (.bool (nodB n.nodes v)) ∧ Below w1.heap.size w1 w') := fun s w1 => rnode_any n.nodes v s w1
  have enb : nodB n.nodes v = nodeB n v := by
    unfold nodB nodeB
    by_cases h1 : 0 ≤ v <;> by_cases h2 : v < n.nodes <;> simp [h1, h2]
  rw [enb] at ND
  rw [may_iff]
  have hsc : decide (shortN n T v < 0) = decide (shortN n T v = -1) := by
    rcases short_cases n T v with e | e
    · rw [e]; rfl
    · rw [decide_eq_false (by omega), decide_eq_false (by omega)]
  rw [← hsc]
  have SH := hiddenN (fun (U : World) (hb : Below (w.alloc (.cells #[.int .i64 n.nodes, .slice a n.arcs.length c, .slice (some ⟨g, 0, none⟩) N N] 47)).heap.size (w.alloc (.cells #[.int .i64 n.nodes, .slice a n.arcs.length c, .slice (some ⟨g, 0, none⟩) N N] 47)) U) => rshort10_any U n a c g N T F (H.out.below hb) hI v)
  generalize shortN n T v = s at *
  generalize nodeB n v = b at *
  have x0 := X.out.cell (k := 0) rfl
  have x1 := X.out.cell (k := 1) rfl
  have x2 := X.out.cell (k := 2) rfl
  simp only [List.getElem_toArray, List.getElem_cons_zero, List.getElem_cons_succ] at x0 x1 x2
  clear ba h hI enb hsc H
  go_enter Try.func39, Try.ntmps39
  go_upto_region 1 with fail
  generalize w.alloc (.cells #[.int .i64 n.nodes, .slice a n.arcs.length c, .slice (some ⟨g, 0, none⟩) N N] 47) = W0 at *
  cases b with
  | false =>
    go_wp2_with (go_at_call 27; (with_reducible refine (ND.out _ _).mono ?_); rintro e U ⟨rfl, b1⟩; have B1 := hiddenN (B0.out.trans (b1.mono B0.out.size)); clear b1)
    go_ret
    exact ⟨by first | rfl | simp, B1.out⟩
  | true =>
    go_wp2_with (first
      | (go_at_call 27; (with_reducible refine (ND.out _ _).mono ?_); rintro e U ⟨rfl, b1⟩; have B1 := hiddenN (B0.out.trans (b1.mono B0.out.size)); have SU := hiddenN (SH.out _ b1); have X1 := hiddenN (X.out.below b1); clear b1 x0 x1 x2; have x0 := X1.out.cell (k := 0) rfl; have x1 := X1.out.cell (k := 1) rfl; have x2 := X1.out.cell (k := 2) rfl; simp only [List.getElem_toArray, List.getElem_cons_zero, List.getElem_cons_succ] at x0 x1 x2)
      | (go_at_call 40; (with_reducible refine SU.out.mono ?_); rintro e U2 ⟨rfl, b2⟩; have B2 := hiddenN (B1.out.trans (b2.mono B1.out.size)); clear b2))
    go_ret
    exact ⟨by first | rfl | simp, B2.out⟩
theorem DocS.but {B : Nat} {U : World} {n : NN} {a : Option Addr} {g N : Nat} {F : List Int} (h : DocS B U n a g N F) {q : Nat} {x : Int} (hx : -9223372036854775808 ≤ x ∧ x ≤ 9223372036854775807) : DocS B (U.setCell ⟨g, q, none⟩ (.int .i64 x)) n a g N (F.set q x) := by
  refine ⟨?_, h.fir.setAt x, by rw [List.length_set]; exact h.lF, h.nodes, h.sound, h.far, inR_setN h.inr hx⟩
  rcases h.arcs with e | ⟨b, off, e, hc⟩
  · exact .inl e
  · by_cases hne : n.arcs = []
    · exact .inl hne
    · have hb : b ≠ g := h.far _ e hne
      refine .inr ⟨b, off, e, fun k hk => ?_⟩
      obtain ⟨h0, h1, h2, h3, h4⟩ := hc k hk
      have key : ∀ j v, U.cell? ⟨b, j, none⟩ = some v → (U.setCell ⟨g, q, none⟩ (.int .i64 x)).cell? ⟨b, j, none⟩ = some v := fun j v hv => cell_block (Below.heap_setCell U ⟨g, q, none⟩ _ b hb) hv
      exact ⟨key _ _ h0, key _ _ h1, key _ _ h2, key _ _ h3, key _ _ h4⟩

set_option maxRecDepth 100000 in
set_option maxHeartbeats 16000000 in
theorem rfire10_any {B : Nat} (w : World) (n : NN) (a : Option Addr) (c g N : Nat) (T F : List Int) (h : DocS B w n a g N F) (hI : InvN n T F) (b : Option Addr) (cz : Nat) (zs : List Int) (hz : At w b zs) (hl : zs.length ≤ 4611686018427387904) (hK : ∀ x, b = some x → zs ≠ [] → x.block ≠ g) :
    Calls Try.prog 21 #[.agg #[.int .i64 n.nodes, .slice a n.arcs.length c, .slice (some ⟨g, 0, none⟩) N N], .slice b zs.length cz] w fun e w' => e = .returned (.int .i64 ((firesN n zs T F).1 : Int)) ∧ DocS B w' n a g N (firesN n zs T F).2.2 ∧ But g w w' := by
  obtain ⟨R, hR⟩ : ∃ R, firesN n zs T F = R := ⟨_, rfl⟩
  rw [hR]
  have ba := (Below.refl w.heap.size w).alloc (Nat.le_refl _) (.cells #[.int .i64 n.nodes, .slice a n.arcs.length c, .slice (some ⟨g, 0, none⟩) N N] 47)
  have X := hiddenN (blkA_new 47 w #[.int .i64 n.nodes, .slice a n.arcs.length c, .slice (some ⟨g, 0, none⟩) N N])
  have H := hiddenN (h.below ba)
  have B0 := hiddenN ba
  have HZ := hiddenN (hz.below ba)
  have hgw : g < w.heap.size := (h.fir.lt _ rfl).2
  have HSN := hiddenN h.sound
  obtain ⟨Nz, hNz⟩ : ∃ N, zs.length = N := ⟨_, rfl⟩
  rw [hNz] at hl ⊢
  clear ba h hz
  go_enter Try.func21, Try.ntmps21
  go_upto_region 1 with fail
  generalize w.alloc (.cells #[.int .i64 n.nodes, .slice a n.arcs.length c, .slice (some ⟨g, 0, none⟩) N N] 47) = W0 at *
  go_wp2
  go_loopg [5] Nz (fun gk u wr => ∃ (k : Nat) (T1 F1 : List Int), k ≤ Nz ∧ gk = Nz - k ∧ u = .int .i64 (k : Int) ∧ DocS B wr n a g N F1 ∧ InvN n T1 F1 ∧ But g W0 wr ∧ R = (k + (firesN n (zs.drop k) T1 F1).1, (firesN n (zs.drop k) T1 F1).2))
  case atStart => exact ⟨0, T, F, Nat.zero_le _, rfl, rfl, H.out, hI, But.of_below (Below.refl _ _), by rw [List.drop_zero, hR, Nat.zero_add]⟩
  case round =>
    clear H hI
    obtain ⟨k, T1, F1, hk, rfl, rfl, hD, hI1, hM, hE⟩ := hrel
    have HD := hiddenN hD
    have HI := hiddenN hI1
    have HM := hiddenN hM
    clear hD hI1 hM
    by_cases hlt : k < Nz
    · have hki : (k : Int) < (Nz : Int) := by omega
      have hkl : k < Nz := hlt
      have hne : zs ≠ [] := fun e => by rw [e] at hNz; simp at hNz; omega
      have XB := hiddenN (X.out.keep (HM.out.block _ X.out.lt (by omega)))
      have hzr : At wr b zs := HZ.out.keep fun x hx => HM.out.block _ (at_lt HZ.out hne hx) (hK x hx hne)
      rcases hzr with e | ⟨zb, zo, eb, hc⟩
      · exact absurd e hne
      subst eb
      have c0 := hc k (by omega)
      have x0 := XB.out.cell (k := 0) rfl
      have x1 := XB.out.cell (k := 1) rfl
      have x2 := XB.out.cell (k := 2) rfl
      simp only [List.getElem_toArray, List.getElem_cons_zero, List.getElem_cons_succ] at x0 x1 x2
      have hdr : zs.drop k = nth zs k :: zs.drop (k + 1) := by
        rw [List.drop_eq_getElem_cons (by omega)]
        unfold nth
        rw [List.getD_eq_getElem?_getD, List.getElem?_eq_getElem (by omega)]
        rfl
      rw [hdr] at hE
      unfold firesN at hE
      have MY0 := hiddenN (fun (U : World) (hb : Below wr.heap.size wr U) => rmay10_any U n a c g N T1 F1 (HD.out.below hb) HI.out (nth zs k))
      have MN := hiddenN (fun (e : mayN n T1 (nth zs k) = true) => may_node e)
      have HE := hiddenN hE
      clear hE hc hdr
      generalize nth zs k = v at *
      obtain ⟨bm, hbm⟩ : ∃ b, mayN n T1 v = b := ⟨_, rfl⟩
      rw [hbm] at MY0 HE MN
      have MY : Hid (∀ U, Below wr.heap.size wr U → Calls Try.prog 39 #[.agg #[.int .i64 n.nodes, .slice a n.arcs.length c, .slice (some ⟨g, 0, none⟩) N N], .int .i64 v] U fun e w' => e = .returned (.bool bm) ∧ Below U.heap.size U w') := fun U hb => MY0.out U hb
      have HBM := hiddenN hbm
      clear MY0 hbm
      go_upto_region 4 with fail

      refine wp_region_gen [] (fun d i u z => match i with
          | 0 => z = .agg #[.int .i64 n.nodes, .slice a n.arcs.length c, .slice (some ⟨g, 0, none⟩) N N]
          | 1 => z = .slice (some ⟨zb, zo, none⟩) Nz cz
          | 2 => z = .int .i64 (k : Int)
          | 3 => z = .pointer (some ⟨zb, zo + k, none⟩)
          | 4 => z = .int .i64 v
          | 5 => z = .bool bm
          | 6 => z = .bool (!bm)
          | _ => True) (fun _ u => Below wr.heap.size wr u) (by kernel_rfl) (by kernel_rfl) (by kernel_rfl) ?_ ?_ ?_ ?_ ?_ ?_ (by kernel_rfl)
      · intro d i w v w' h hb
        match i, h with
        | 0, h => exact h
        | 1, h => exact h
        | 2, h => exact h
        | 3, h => exact h
        | 4, h => exact h
        | 5, h => exact h
        | 6, h => exact h
        | _ + 7, _ => trivial
      · intro d u u' h hb
        exact h.trans (hb.mono h.size)
      · exact Below.refl _ _
      · intro d i o ρ w' hm ho hf hg hC hcs hfs hfr hdep
        match i, hm, ho, hf, hg, hfr, hdep with
        | 0, _, ho, hf, hg, hfr, hdep =>
          simp only [List.getElem?_toArray, List.getElem?_cons_zero, Option.some.injEq] at ho
          subst ho
          refine ⟨fun _ => ?_, fun hw => absurd (show true = false from hw) (by decide)⟩
          have ts : ρ (.tmp 2) = .pointer (some ⟨w.heap.size, 0, none⟩) := hfr 2 (by kernel_rfl)
          have k0 := cellN_later hC x0
          have k1 := cellN_later hC x1
          have k2 := cellN_later hC x2
          simp [go_sem, ts, k0, k1, k2]
          exact ⟨Below.refl _ _, rfl⟩
        | 1, _, ho, hf, hg, hfr, hdep =>
          simp only [List.getElem?_toArray, List.getElem?_cons_zero, List.getElem?_cons_succ, Option.some.injEq] at ho
          subst ho
          refine ⟨fun _ => ?_, fun hw => absurd (show true = false from hw) (by decide)⟩
          have ts : ρ (.tmp 1) = .slice (some ⟨zb, zo, none⟩) Nz cz := hfr 1 (by kernel_rfl)
          simp [go_sem, ts]
          exact ⟨Below.refl _ _, rfl⟩
        | 2, _, ho, hf, hg, hfr, hdep =>
          simp only [List.getElem?_toArray, List.getElem?_cons_zero, List.getElem?_cons_succ, Option.some.injEq] at ho
          subst ho
          refine ⟨fun _ => ?_, fun hw => absurd (show true = false from hw) (by decide)⟩
          have ts : ρ (.tmp 5) = .int .i64 (k : Int) := hfr 5 (by kernel_rfl)
          simp [go_sem, ts]
          exact ⟨Below.refl _ _, rfl⟩
        | 3, _, ho, hf, hg, hfr, hdep =>
          simp only [List.getElem?_toArray, List.getElem?_cons_zero, List.getElem?_cons_succ, Option.some.injEq] at ho
          subst ho
          refine ⟨fun _ => ?_, fun hw => absurd (show true = false from hw) (by decide)⟩
          have d0 : ρ (.tmp 13) = .slice (some ⟨zb, zo, none⟩) Nz cz := hdep 1 13 (by kernel_rfl) (by kernel_rfl)
          have d1 : ρ (.tmp 14) = .int .i64 (k : Int) := hdep 2 14 (by kernel_rfl) (by kernel_rfl)
          simp [go_sem, d0, d1, hkl]
          exact ⟨Below.refl _ _, rfl⟩
        | 4, _, ho, hf, hg, hfr, hdep =>
          simp only [List.getElem?_toArray, List.getElem?_cons_zero, List.getElem?_cons_succ, Option.some.injEq] at ho
          subst ho
          refine ⟨fun _ => ?_, fun hw => absurd (show true = false from hw) (by decide)⟩
          have cc : w'.cell? ⟨zb, zo + k, none⟩ = some (.int .i64 v) := cellN_later hC c0
          have d0 : ρ (.tmp 15) = .pointer (some ⟨zb, zo + k, none⟩) := hdep 3 15 (by kernel_rfl) (by kernel_rfl)
          simp [go_sem, d0, cc]
          exact ⟨Below.refl _ _, rfl⟩
        | 5, _, ho, hf, hg, hfr, hdep =>
          simp only [List.getElem?_toArray, List.getElem?_cons_zero, List.getElem?_cons_succ, Option.some.injEq] at ho
          subst ho
          refine ⟨fun _ => ?_, fun hw => absurd (show true = false from hw) (by decide)⟩
          have d0 : ρ (.tmp 12) = .agg #[.int .i64 n.nodes, .slice a n.arcs.length c, .slice (some ⟨g, 0, none⟩) N N] := hdep 0 12 (by kernel_rfl) (by kernel_rfl)
          have d1 : ρ (.tmp 16) = .int .i64 v := hdep 4 16 (by kernel_rfl) (by kernel_rfl)
          simp [go_sem, d0, d1, hfs]
          exact ⟨rfl, (MY.out w' hC).mono fun e w'' hh => ⟨_, hh.1, hh.2, rfl⟩⟩
        | 6, _, ho, hf, hg, hfr, hdep =>
          simp only [List.getElem?_toArray, List.getElem?_cons_zero, List.getElem?_cons_succ, Option.some.injEq] at ho
          subst ho
          refine ⟨fun _ => ?_, fun hw => absurd (show true = false from hw) (by decide)⟩
          have d0 : ρ (.tmp 17) = .bool bm := hdep 5 17 (by kernel_rfl) (by kernel_rfl)
          simp [go_sem, d0]
          exact ⟨Below.refl _ _, rfl⟩
        | n + 7, _, ho, _, _, _, _ => simp at ho
      · intro d i o ρ w' hm ho h0 hf hg hC hcs hfs hfr hdep
        exact absurd hm (by simp)
      · intro V w9 hC9 hS
        have e6 : V 6 = .bool (!bm) := hS 6 (by decide) (by intro h; cases h)
        simp only [puts, e6]
        simp only [Act.put, List.setIfInBounds_toArray, List.set_cons_zero, List.set_cons_succ]
        clear hS e6
        have hb9 := hC9
        have D9 := hiddenN (HD.out.below hb9)
        have M9 := hiddenN (HM.out.trans (But.of_below hb9))
        cases bm with
        | false =>
          rw [if_neg (by decide)] at HE
          clear hC9 hb9
          go_wp2
          go_ret
          rw [HE.out]
          exact ⟨by simp, D9.out, (But.of_below B0.out).trans M9.out⟩
        | true =>
          rw [if_pos rfl] at HE
          have hnode := MN.out rfl
          have hv : 0 ≤ v ∧ v < n.nodes := of_decide_eq_true hnode
          obtain ⟨vn, rfl⟩ : ∃ k : Nat, v = (k : Int) := ⟨v.toNat, by omega⟩
          have hvN : vn < N := by have := D9.out.nodes; omega
          have I2 := hiddenN (fire_inv HSN.out HI.out hnode)
          have cg := D9.out.cell hvN
          have fg := D9.out.fir.fz vn
          have X9 := hiddenN (XB.out.below hb9)
          have c9 := cellN_later hb9 c0
          have eF : F1.set vn (wrap64 (nth F1 vn + 1)) = bumpF F1 (vn : Int) := by unfold bumpF; rw [Int.toNat_natCast]
          clear x0 x1 x2 c0 hC9 hb9
          have x2 := X9.out.cell (k := 2) rfl
          simp only [List.getElem_toArray, List.getElem_cons_zero, List.getElem_cons_succ] at x2
          have c0 := c9
          clear c9
          obtain ⟨wr2, hw2⟩ : ∃ W, w9 = W := ⟨_, rfl⟩
          rw [hw2] at D9 M9 X9 cg fg x2 c0 ⊢
          have DF : Hid (∀ U, Below wr2.heap.size wr2 U → U.cell? ⟨g, vn, none⟩ = some (.int .i64 (nth F1 vn)) ∧ U.frozen? ⟨g, vn, none⟩ = false ∧ DocS B (U.setCell ⟨g, vn, none⟩ (.int .i64 (wrap64 (nth F1 vn + 1)))) n a g N (bumpF F1 (vn : Int)) ∧ But g W0 (U.setCell ⟨g, vn, none⟩ (.int .i64 (wrap64 (nth F1 vn + 1))))) := fun U hb => by
            have q := D9.out.below hb
            refine ⟨q.cell hvN, q.fir.fz vn, ?_, (M9.out.trans (But.of_below hb)).trans (But.set U g vn _)⟩
            rw [← eF]
            exact q.but (wrap64_in _)
          generalize nth F1 vn = xg at *
          clear hw2 eF D9 M9 fg X9 hv hnode
          go_upto_region 6 with fail

          refine wp_region_said 15 (fun i u v => match i with
              | 0 => v = .pointer (some ⟨w.heap.size, 2, none⟩)
              | 1 => v = .slice (some ⟨g, 0, none⟩) N N
              | 2 => v = .slice (some ⟨zb, zo, none⟩) Nz cz
              | 3 => v = .int .i64 (k : Int)
              | 4 => v = .pointer (some ⟨zb, zo + k, none⟩)
              | 5 => v = .int .i64 (vn : Int)
              | 6 => v = .pointer (some ⟨w.heap.size, 2, none⟩)
              | 7 => v = .slice (some ⟨g, 0, none⟩) N N
              | 8 => v = .slice (some ⟨zb, zo, none⟩) Nz cz
              | 9 => v = .int .i64 (k : Int)
              | 10 => v = .pointer (some ⟨zb, zo + k, none⟩)
              | 11 => v = .int .i64 (vn : Int)
              | 12 => v = .pointer (some ⟨g, vn, none⟩)
              | 13 => v = .int .i64 xg
              | 14 => v = .int .i64 (wrap64 (xg + 1))
              | _ => True) (by kernel_rfl) (by kernel_rfl) (by kernel_rfl) (by kernel_rfl) ?_ ?_ ?_
          · intro i w v w' h hb
            match i, h with
            | 0, h => exact h
            | 1, h => exact h
            | 2, h => exact h
            | 3, h => exact h
            | 4, h => exact h
            | 5, h => exact h
            | 6, h => exact h
            | 7, h => exact h
            | 8, h => exact h
            | 9, h => exact h
            | 10, h => exact h
            | 11, h => exact h
            | 12, h => exact h
            | 13, h => exact h
            | 14, h => exact h
            | _ + 15, _ => trivial
          · intro i o ρ w' hi ho hb hc hf hfr hdep
            have k2 := cellN_later hb x2
            have kz := cellN_later hb c0
            have kg := cellN_later hb cg
            match i, hi with
            | 0, _ =>
              simp only [List.getElem?_toArray, List.getElem?_cons_zero, Option.some.injEq] at ho
              subst ho
              have ts : ρ (.tmp 2) = .pointer (some ⟨w.heap.size, 0, none⟩) := hfr 2 (by kernel_rfl)
              simp [go_sem, ts]
              exact ⟨Below.refl _ _, rfl⟩
            | 1, _ =>
              simp only [List.getElem?_toArray, List.getElem?_cons_zero, List.getElem?_cons_succ, Option.some.injEq] at ho
              subst ho
              have ts : ρ (.tmp 20) = .pointer (some ⟨w.heap.size, 2, none⟩) := hdep 0 20 (by kernel_rfl) (by kernel_rfl)
              simp [go_sem, ts, k2]
              exact ⟨Below.refl _ _, rfl⟩
            | 2, _ =>
              simp only [List.getElem?_toArray, List.getElem?_cons_zero, List.getElem?_cons_succ, Option.some.injEq] at ho
              subst ho
              have ts : ρ (.tmp 1) = .slice (some ⟨zb, zo, none⟩) Nz cz := hfr 1 (by kernel_rfl)
              simp [go_sem, ts]
              exact ⟨Below.refl _ _, rfl⟩
            | 3, _ =>
              simp only [List.getElem?_toArray, List.getElem?_cons_zero, List.getElem?_cons_succ, Option.some.injEq] at ho
              subst ho
              have ts : ρ (.tmp 5) = .int .i64 (k : Int) := hfr 5 (by kernel_rfl)
              simp [go_sem, ts]
              exact ⟨Below.refl _ _, rfl⟩
            | 4, _ =>
              simp only [List.getElem?_toArray, List.getElem?_cons_zero, List.getElem?_cons_succ, Option.some.injEq] at ho
              subst ho
              have t0 : ρ (.tmp 22) = .slice (some ⟨zb, zo, none⟩) Nz cz := hdep 2 22 (by kernel_rfl) (by kernel_rfl)
              have t1 : ρ (.tmp 23) = .int .i64 (k : Int) := hdep 3 23 (by kernel_rfl) (by kernel_rfl)
              simp [go_sem, t0, t1, hkl]
              exact ⟨Below.refl _ _, rfl⟩
            | 5, _ =>
              simp only [List.getElem?_toArray, List.getElem?_cons_zero, List.getElem?_cons_succ, Option.some.injEq] at ho
              subst ho
              have ts : ρ (.tmp 24) = .pointer (some ⟨zb, zo + k, none⟩) := hdep 4 24 (by kernel_rfl) (by kernel_rfl)
              simp [go_sem, ts, kz]
              exact ⟨Below.refl _ _, rfl⟩
            | 6, _ =>
              simp only [List.getElem?_toArray, List.getElem?_cons_zero, List.getElem?_cons_succ, Option.some.injEq] at ho
              subst ho
              have ts : ρ (.tmp 2) = .pointer (some ⟨w.heap.size, 0, none⟩) := hfr 2 (by kernel_rfl)
              simp [go_sem, ts]
              exact ⟨Below.refl _ _, rfl⟩
            | 7, _ =>
              simp only [List.getElem?_toArray, List.getElem?_cons_zero, List.getElem?_cons_succ, Option.some.injEq] at ho
              subst ho
              have ts : ρ (.tmp 26) = .pointer (some ⟨w.heap.size, 2, none⟩) := hdep 6 26 (by kernel_rfl) (by kernel_rfl)
              simp [go_sem, ts, k2]
              exact ⟨Below.refl _ _, rfl⟩
            | 8, _ =>
              simp only [List.getElem?_toArray, List.getElem?_cons_zero, List.getElem?_cons_succ, Option.some.injEq] at ho
              subst ho
              have ts : ρ (.tmp 1) = .slice (some ⟨zb, zo, none⟩) Nz cz := hfr 1 (by kernel_rfl)
              simp [go_sem, ts]
              exact ⟨Below.refl _ _, rfl⟩
            | 9, _ =>
              simp only [List.getElem?_toArray, List.getElem?_cons_zero, List.getElem?_cons_succ, Option.some.injEq] at ho
              subst ho
              have ts : ρ (.tmp 5) = .int .i64 (k : Int) := hfr 5 (by kernel_rfl)
              simp [go_sem, ts]
              exact ⟨Below.refl _ _, rfl⟩
            | 10, _ =>
              simp only [List.getElem?_toArray, List.getElem?_cons_zero, List.getElem?_cons_succ, Option.some.injEq] at ho
              subst ho
              have t0 : ρ (.tmp 28) = .slice (some ⟨zb, zo, none⟩) Nz cz := hdep 8 28 (by kernel_rfl) (by kernel_rfl)
              have t1 : ρ (.tmp 29) = .int .i64 (k : Int) := hdep 9 29 (by kernel_rfl) (by kernel_rfl)
              simp [go_sem, t0, t1, hkl]
              exact ⟨Below.refl _ _, rfl⟩
            | 11, _ =>
              simp only [List.getElem?_toArray, List.getElem?_cons_zero, List.getElem?_cons_succ, Option.some.injEq] at ho
              subst ho
              have ts : ρ (.tmp 30) = .pointer (some ⟨zb, zo + k, none⟩) := hdep 10 30 (by kernel_rfl) (by kernel_rfl)
              simp [go_sem, ts, kz]
              exact ⟨Below.refl _ _, rfl⟩
            | 12, _ =>
              simp only [List.getElem?_toArray, List.getElem?_cons_zero, List.getElem?_cons_succ, Option.some.injEq] at ho
              subst ho
              have t0 : ρ (.tmp 27) = .slice (some ⟨g, 0, none⟩) N N := hdep 7 27 (by kernel_rfl) (by kernel_rfl)
              have t1 : ρ (.tmp 31) = .int .i64 (vn : Int) := hdep 11 31 (by kernel_rfl) (by kernel_rfl)
              simp [go_sem, t0, t1, hvN]
              exact ⟨Below.refl _ _, rfl⟩
            | 13, _ =>
              simp only [List.getElem?_toArray, List.getElem?_cons_zero, List.getElem?_cons_succ, Option.some.injEq] at ho
              subst ho
              have ts : ρ (.tmp 32) = .pointer (some ⟨g, vn, none⟩) := hdep 12 32 (by kernel_rfl) (by kernel_rfl)
              simp [go_sem, ts, kg]
              exact ⟨Below.refl _ _, rfl⟩
            | 14, _ =>
              simp only [List.getElem?_toArray, List.getElem?_cons_zero, List.getElem?_cons_succ, Option.some.injEq] at ho
              subst ho
              have t0 : ρ (.tmp 33) = .int .i64 xg := hdep 13 33 (by kernel_rfl) (by kernel_rfl)
              simp [go_sem, t0, hc, wrapN]
              exact ⟨Below.refl _ _, rfl⟩
          · intro V w9 q9 hS
            have e0 : V 0 = .pointer (some ⟨w.heap.size, 2, none⟩) := hS 0 (by decide)
            have e1 : V 1 = .slice (some ⟨g, 0, none⟩) N N := hS 1 (by decide)
            have e2 : V 2 = .slice (some ⟨zb, zo, none⟩) Nz cz := hS 2 (by decide)
            have e3 : V 3 = .int .i64 (k : Int) := hS 3 (by decide)
            have e4 : V 4 = .pointer (some ⟨zb, zo + k, none⟩) := hS 4 (by decide)
            have e5 : V 5 = .int .i64 (vn : Int) := hS 5 (by decide)
            have e6 : V 6 = .pointer (some ⟨w.heap.size, 2, none⟩) := hS 6 (by decide)
            have e7 : V 7 = .slice (some ⟨g, 0, none⟩) N N := hS 7 (by decide)
            have e8 : V 8 = .slice (some ⟨zb, zo, none⟩) Nz cz := hS 8 (by decide)
            have e9 : V 9 = .int .i64 (k : Int) := hS 9 (by decide)
            have e10 : V 10 = .pointer (some ⟨zb, zo + k, none⟩) := hS 10 (by decide)
            have e11 : V 11 = .int .i64 (vn : Int) := hS 11 (by decide)
            have e12 : V 12 = .pointer (some ⟨g, vn, none⟩) := hS 12 (by decide)
            have e13 : V 13 = .int .i64 xg := hS 13 (by decide)
            have e14 : V 14 = .int .i64 (wrap64 (xg + 1)) := hS 14 (by decide)
            simp only [List.drop_succ_cons, List.drop_zero, List.take_succ_cons, List.take_zero, puts, e0, e1, e2, e3, e4, e5, e6, e7, e8, e9, e10, e11, e12, e13, e14]
            clear hS e0 e1 e2 e3 e4 e5 e6 e7 e8 e9 e10 e11 e12 e13 e14 V
            obtain ⟨cgg, fgg, DD, BB⟩ := DF.out _ q9
            have DDh := hiddenN DD
            have BBh := hiddenN BB
            clear DD BB DF q9
            go_wp2
            go_roundg (Nz - (k + 1))
            case measure => omega
            case rel => exact ⟨k + 1, _, _, by omega, rfl, by go_num, DDh.out, I2.out, BBh.out, by rw [HE.out]; simp; omega⟩
    · have ek : k = Nz := by omega
      subst ek
      have hki : ¬ (k : Int) < (k : Int) := by omega
      have hd : zs.drop k = [] := List.drop_eq_nil_of_le (by omega)
      rw [hd] at hE
      have HE := hiddenN hE
      clear hE hd
      go_wp2
      go_ret
      rw [HE.out]
      exact ⟨by simp [firesN], HD.out, (But.of_below B0.out).trans HM.out⟩
end Go.Proofs.Ytancphohpedigaa

/- The document's Counts and Start of nets. (Written by tmpl/mkN17.py.) -/
import Derived.Test.YtancphohpedigaaN16
import Derived.Test.YtancphohpedigaaNE
namespace Go.Proofs.Ytancphohpedigaa
open Go.ChangeShapes Go.WideShapes Go.ChangeAt Go.RowKit

set_option maxRecDepth 100000 in
set_option maxHeartbeats 8000000 in
theorem rcounts10_any {B : Nat} (w : World) (n : NN) (a : Option Addr) (c g N : Nat) (T F : List Int) (h : DocS B w n a g N F) (hI : InvN n T F) : Calls Try.prog 37 #[.agg #[.int .i64 n.nodes, .slice a n.arcs.length c, .slice (some ⟨g, 0, none⟩) N N]] w fun e w' => ∃ d, e = .returned (.slice (some ⟨d, 0, none⟩) n.arcs.length n.arcs.length) ∧ At w' (some ⟨d, 0, none⟩) T ∧ Below w.heap.size w w' := by
  have ba := (Below.refl w.heap.size w).alloc (Nat.le_refl _) (.cells #[.int .i64 n.nodes, .slice a n.arcs.length c, .slice (some ⟨g, 0, none⟩) N N] 47)
  have X := hiddenN (blkA_new 47 w #[.int .i64 n.nodes, .slice a n.arcs.length c, .slice (some ⟨g, 0, none⟩) N N])
  have H := hiddenN (h.below ba)
  have B0 := hiddenN ba
  have hmost := h.sound.most
  have hTl := hI.lT
  have HE := hiddenN hI.eq
  have x1 := X.out.cell (k := 1) rfl
  simp only [List.getElem_toArray, List.getElem_cons_zero, List.getElem_cons_succ] at x1
  have hmk := run_make_row' (P := Try.prog) 45 3 (.int .i64 0) 8 Try.underlying45 Try.info3 rfl .i64 .i64 n.arcs.length (by omega) (by omega)
  clear ba h hI
  go_enter Try.func37, Try.ntmps37
  go_upto_region 1 with fail
  generalize w.alloc (.cells #[.int .i64 n.nodes, .slice a n.arcs.length c, .slice (some ⟨g, 0, none⟩) N N] 47) = W0 at *
  have C0 := hiddenN (made_ownN W0 n.arcs.length (by omega) (Nat.le_refl W0.heap.size))
  have b1 := hiddenN ((Below.refl W0.heap.size W0).alloc (Nat.le_refl _) (.cells (madeCells #[.int .i64 0] n.arcs.length) 3))
  go_wp2
  clear hmk x1
  generalize W0.alloc (.cells (madeCells #[.int .i64 0] n.arcs.length) 3) = W1 at *
  go_loopg [4] n.arcs.length (fun gk v4 wr => ∃ i : Nat, i ≤ n.arcs.length ∧ gk = n.arcs.length - i ∧ v4 = .int .i64 (i : Int) ∧ CapR W0.heap.size wr (some ⟨W0.heap.size, 0, none⟩) n.arcs.length (T.take i ++ List.replicate (n.arcs.length - i) 0) ∧ Below W0.heap.size W0 wr)
  case atStart => exact ⟨0, Nat.zero_le _, rfl, rfl, by simpa using C0.out, b1.out⟩
  case round =>
    clear C0 b1
    obtain ⟨i, hi, rfl, rfl, hC, hBw⟩ := hrel
    have HB := hiddenN hBw
    clear hBw
    by_cases hil : i < n.arcs.length
    · have hii : (i : Int) < (n.arcs.length : Int) := by omega
      have es : List.replicate (n.arcs.length - i) (0 : Int) = 0 :: List.replicate (n.arcs.length - (i + 1)) 0 := by
        rw [show n.arcs.length - i = (n.arcs.length - (i + 1)) + 1 by omega, List.replicate_succ]
      rw [es] at hC
      have hlk : (T.take i).length = i := by rw [List.length_take]; omega
      have HC := hiddenN hC
      have XB := hiddenN (X.out.below HB.out)
      have x0 := XB.out.cell (k := 0) rfl
      have x1 := XB.out.cell (k := 1) rfl
      have x2 := XB.out.cell (k := 2) rfl
      simp only [List.getElem_toArray, List.getElem_cons_zero, List.getElem_cons_succ] at x0 x1 x2
      have HX := hiddenN (has10_any wr n a c g N F (H.out.below HB.out) i hil)
      rw [← HE.out i hil] at HX
      have HLK := hiddenN hlk
      have HTN := hiddenN (take_snoc (zs := T) (j := i) (by omega))
      clear hC es hlk
      generalize nth T i = y at *
      go_wp2_with (go_at_call 51; (with_reducible refine HX.out.mono ?_); rintro e U ⟨rfl, b2⟩; have C2 := HC.out.later b2; have cc := C2.hd (k := i) HLK.out; have ff := C2.fz i; have C3 := hiddenN (C2.set (k := i) y HLK.out); have B3 := hiddenN ((HB.out.trans (b2.mono HB.out.size)).setCell (p := ⟨W0.heap.size, i, none⟩) (Nat.le_refl _) (.int .i64 y)); clear b2 C2)
      go_roundg (n.arcs.length - (i + 1))
      case measure => omega
      case rel => exact ⟨i + 1, by omega, rfl, by go_num, by rw [HTN.out, List.append_assoc]; exact C3.out, B3.out⟩
    · have ei : i = n.arcs.length := by omega
      have hii : ¬ (i : Int) < (n.arcs.length : Int) := by omega
      rw [ei, Nat.sub_self, List.replicate_zero, List.append_nil, List.take_of_length_le (by omega)] at hC
      have HC := hiddenN hC
      clear hC
      go_wp2
      go_ret
      exact ⟨W0.heap.size, rfl, HC.out.at, B0.out.trans (HB.out.mono B0.out.size)⟩

set_option maxRecDepth 100000 in
set_option maxHeartbeats 8000000 in
theorem rstart10_any (w : World) (n : NN) (a : Option Addr) (c N : Nat) (hS : SoundN n) (hN : n.nodes = (N : Int)) (h : AtN w a n.arcs) (hfar : ∀ x, a = some x → n.arcs ≠ [] → x.block < w.heap.size) : Calls Try.prog 17 #[.agg #[.int .i64 n.nodes, .slice a n.arcs.length c]] w fun e w' => ∃ g, e = .returned (.agg #[.int .i64 n.nodes, .slice a n.arcs.length c, .slice (some ⟨g, 0, none⟩) N N]) ∧ DocS w.heap.size w' n a g N (List.replicate N 0) ∧ Below w.heap.size w w' := by
  have b0 := (Below.refl w.heap.size w).alloc (Nat.le_refl _) (.cells #[.int .i64 n.nodes, .slice a n.arcs.length c] 24)
  have b1 := b0.alloc b0.size (.cells #[.int .i64 0, .slice none 0 0, .slice none 0 0] 47)
  have g0 := (blkA_new 24 w #[.int .i64 n.nodes, .slice a n.arcs.length c]).below ((Below.refl _ _).alloc (Nat.le_refl _) (.cells #[.int .i64 0, .slice none 0 0, .slice none 0 0] 47))
  have G1 := hiddenN (blkA_new 47 (w.alloc (.cells #[.int .i64 n.nodes, .slice a n.arcs.length c] 24)) #[.int .i64 0, .slice none 0 0, .slice none 0 0])
  have hsz : (w.alloc (.cells #[.int .i64 n.nodes, .slice a n.arcs.length c] 24)).heap.size = w.heap.size + 1 := World.size_alloc _ _
  rw [hsz] at G1
  have x0 := g0.cell (k := 0) rfl
  have x1 := g0.cell (k := 1) rfl
  simp only [List.getElem_toArray, List.getElem_cons_zero, List.getElem_cons_succ] at x0 x1
  have B1 := hiddenN b1
  have HA := hiddenN h
  have hN0 := hiddenN hN
  have hnn := hS.nodes
  have hN32 : 1 ≤ N ∧ N ≤ 32 := by omega
  have HSN := hiddenN hS
  have HM := hiddenN (run_make_row' (P := Try.prog) 45 3 (.int .i64 0) 8 Try.underlying45 Try.info3 rfl .i64 .i64 N (by omega) (by omega))
  clear b0 b1 g0 h hN hnn hS
  go_enter Try.func17, Try.ntmps17
  go_upto_region 1 with fail
  generalize (w.alloc (.cells #[.int .i64 n.nodes, .slice a n.arcs.length c] 24)).alloc (.cells #[.int .i64 0, .slice none 0 0, .slice none 0 0] 47) = V0 at *

  refine wp_region_gen [5] (fun d i u z => match i with
      | 0 => z = .agg #[.int .i64 n.nodes, .slice a n.arcs.length c]
      | 1 => z = .pointer (some ⟨w.heap.size, 0, none⟩)
      | 2 => z = .int .i64 (N : Int)
      | 3 => (d 5 = false → ∃ g, z = .slice (some ⟨g, 0, none⟩) N N ∧ CapR V0.heap.size u (some ⟨g, 0, none⟩) N (List.replicate N 0))
      | 4 => (d 5 = false → ∃ g, z = .agg #[.int .i64 n.nodes, .slice a n.arcs.length c, .slice (some ⟨g, 0, none⟩) N N] ∧ CapR V0.heap.size u (some ⟨g, 0, none⟩) N (List.replicate N 0))
      | 5 => True
      | _ => True) (fun d u => (d 5 = false → Below V0.heap.size V0 u) ∧ (d 5 = true → ∃ g, BlkA 47 (w.heap.size + 1) u #[.int .i64 n.nodes, .slice a n.arcs.length c, .slice (some ⟨g, 0, none⟩) N N] ∧ CapR V0.heap.size u (some ⟨g, 0, none⟩) N (List.replicate N 0) ∧ V0.heap.size ≤ u.heap.size ∧ But (w.heap.size + 1) V0 u)) (by kernel_rfl) (by kernel_rfl) (by kernel_rfl) ?_ ?_ ?_ ?_ ?_ ?_ (by kernel_rfl)
  · intro d i w v w' h hb
    match i, h with
    | 0, h => exact h
    | 1, h => exact h
    | 2, h => exact h
    | 3, h => exact fun e => by obtain ⟨g, h1, h2⟩ := h e; exact ⟨g, h1, h2.later hb⟩
    | 4, h => exact fun e => by obtain ⟨g, h1, h2⟩ := h e; exact ⟨g, h1, h2.later hb⟩
    | 5, h => exact h
    | _ + 6, _ => trivial
  · intro d u u' h hb
    exact ⟨fun e => (h.1 e).trans (hb.mono (h.1 e).size), fun e => by obtain ⟨g, h1, h2, h3, h4⟩ := h.2 e; exact ⟨g, h1.below hb, h2.later hb, Nat.le_trans h3 hb.size, h4.trans (But.of_below hb)⟩⟩
  · exact ⟨fun _ => Below.refl _ _, fun e => absurd e (by decide)⟩
  · intro d i o ρ w' hm ho hf hg hC hcs hfs hfr hdep
    match i, hm, ho, hf, hg, hfr, hdep with
    | 0, _, ho, hf, hg, hfr, hdep =>
      simp only [List.getElem?_toArray, List.getElem?_cons_zero, Option.some.injEq] at ho
      subst ho
      refine ⟨fun _ => ?_, fun hw => absurd (show true = false from hw) (by decide)⟩
      have ts : ρ (.tmp 1) = .pointer (some ⟨w.heap.size, 0, none⟩) := hfr 1 (by kernel_rfl)
      have h5 : d 5 = false := hf 5 (by decide) (by kernel_rfl)
      have k0 := cellN_later (hC.1 h5) x0
      have k1 := cellN_later (hC.1 h5) x1
      simp [go_sem, ts, k0, k1]
      exact ⟨Below.refl _ _, rfl⟩
    | 1, _, ho, hf, hg, hfr, hdep =>
      simp only [List.getElem?_toArray, List.getElem?_cons_zero, List.getElem?_cons_succ, Option.some.injEq] at ho
      subst ho
      refine ⟨fun _ => ?_, fun hw => absurd (show true = false from hw) (by decide)⟩
      have ts : ρ (.tmp 1) = .pointer (some ⟨w.heap.size, 0, none⟩) := hfr 1 (by kernel_rfl)
      simp [go_sem, ts]
      exact ⟨Below.refl _ _, rfl⟩
    | 2, _, ho, hf, hg, hfr, hdep =>
      simp only [List.getElem?_toArray, List.getElem?_cons_zero, List.getElem?_cons_succ, Option.some.injEq] at ho
      subst ho
      refine ⟨fun _ => ?_, fun hw => absurd (show true = false from hw) (by decide)⟩
      have h5 : d 5 = false := hf 5 (by decide) (by kernel_rfl)
      have k0 := cellN_later (hC.1 h5) x0
      have d0 : ρ (.tmp 4) = .pointer (some ⟨w.heap.size, 0, none⟩) := hdep 1 4 (by kernel_rfl) (by kernel_rfl)
      simp [go_sem, d0, k0, hN0.out]
      exact ⟨Below.refl _ _, rfl⟩
    | 3, _, ho, hf, hg, hfr, hdep =>
      simp only [List.getElem?_toArray, List.getElem?_cons_zero, List.getElem?_cons_succ, Option.some.injEq] at ho
      subst ho
      refine ⟨fun _ => ?_, fun hw => absurd (show true = false from hw) (by decide)⟩
      have d0 : ρ (.tmp 5) = .int .i64 (N : Int) := hdep 2 5 (by kernel_rfl) (by kernel_rfl)
      have h5 : d 5 = false := hf 5 (by decide) (by kernel_rfl)
      simp [go_sem, d0, HM.out]
      exact ⟨(Below.refl _ _).alloc (Nat.le_refl _) _, fun _ => ⟨w'.heap.size, rfl, made_ownN w' N (by omega) (hC.1 h5).size⟩⟩
    | 4, _, ho, hf, hg, hfr, hdep =>
      simp only [List.getElem?_toArray, List.getElem?_cons_zero, List.getElem?_cons_succ, Option.some.injEq] at ho
      subst ho
      refine ⟨fun _ => ?_, fun hw => absurd (show true = false from hw) (by decide)⟩
      have d0 : ρ (.tmp 3) = .agg #[.int .i64 n.nodes, .slice a n.arcs.length c] := hdep 0 3 (by kernel_rfl) (by kernel_rfl)
      have h5 : d 5 = false := hf 5 (by decide) (by kernel_rfl)
      obtain ⟨g, d1, r1⟩ : ∃ g, ρ (.tmp 6) = .slice (some ⟨g, 0, none⟩) N N ∧ CapR V0.heap.size w' (some ⟨g, 0, none⟩) N (List.replicate N 0) := hdep 3 6 (by kernel_rfl) (by kernel_rfl) h5
      simp [go_sem, d0, d1]
      exact ⟨Below.refl _ _, fun _ => ⟨g, rfl, r1⟩⟩
    | 5, hm, _, _, _, _, _ => exact absurd hm (by decide)
    | n + 6, _, ho, _, _, _, _ => simp at ho
  · intro d i o ρ w' hm ho h0 hf hg hC hcs hfs hfr hdep
    match i, hm, ho, h0, hf, hg, hfr, hdep with
    | 0, hm, _, _, _, _, _, _ => exact absurd hm (by decide)
    | 1, hm, _, _, _, _, _, _ => exact absurd hm (by decide)
    | 2, hm, _, _, _, _, _, _ => exact absurd hm (by decide)
    | 3, hm, _, _, _, _, _, _ => exact absurd hm (by decide)
    | 4, hm, _, _, _, _, _, _ => exact absurd hm (by decide)
    | 5, _, ho, h0, hf, hg, hfr, hdep =>
      simp only [List.getElem?_toArray, List.getElem?_cons_zero, List.getElem?_cons_succ, Option.some.injEq] at ho
      subst ho
      have ts : ρ (.tmp 2) = .pointer (some ⟨w.heap.size + 1, 0, none⟩) := hfr 2 (by kernel_rfl)
      obtain ⟨g, d1, r1⟩ : ∃ g, ρ (.tmp 7) = .agg #[.int .i64 n.nodes, .slice a n.arcs.length c, .slice (some ⟨g, 0, none⟩) N N] ∧ CapR V0.heap.size w' (some ⟨g, 0, none⟩) N (List.replicate N 0) := hdep 4 7 (by kernel_rfl) (by kernel_rfl) h0
      have hb5 := hC.1 h0
      refine ⟨rfl, mark_storeN 47 (.tmp 2) (.tmp 7) rfl (w.heap.size + 1) 47 _ _ ts d1 (G1.out.below hb5) sizRS rfl rfl ?_⟩
      intro w'' hs1 hb1
      refine ⟨⟨fun e => absurd e (by rw [doneAt_eq]; decide), fun _ => ⟨g, hs1, r1.keep (fun x hx => by cases hx; exact hb1.block _ (r1.lt _ rfl).2 (by show g ≠ w.heap.size + 1; have q1 := (r1.lt _ rfl).1; simp only at q1; have := G1.out.lt; omega)), Nat.le_trans hb5.size hb1.size, (But.of_below hb5).trans hb1⟩⟩, fun h => absurd rfl h, ?_⟩
      intro j t hj hs
      match j, hs with
      | 0, hs => exact hs
      | 1, hs => exact hs
      | 2, hs => exact hs
      | 3, _ => exact fun e => absurd e (by rw [doneAt_eq]; decide)
      | 4, _ => exact fun e => absurd e (by rw [doneAt_eq]; decide)
      | 5, _ => trivial
      | _ + 6, _ => trivial
    | n + 6, _, ho, _, _, _, _, _ => simp at ho
  · intro V w9 hC9 hS
    simp only [puts, put_none]
    simp only [Act.put, List.setIfInBounds_toArray, List.set_cons_zero, List.set_cons_succ]
    clear hS 
    obtain ⟨g, hblk, hrow, hsz9, hbut⟩ := hC9.2 rfl
    have hV0 := G1.out.lt
    have hBw := hiddenN (B1.out.trans (hbut.below (Nat.le_succ _) B1.out.size))
    have hgV := (hrow.lt _ rfl).1
    simp only at hgV
    have inr0 : InR (List.replicate N (0 : Int)) := fun k => by
      unfold nth
      rw [List.getD_eq_getElem?_getD]
      by_cases hk : k < N
      · rw [List.getElem?_replicate, if_pos hk]; exact ⟨by decide, by decide⟩
      · rw [List.getElem?_replicate, if_neg hk]; exact ⟨by decide, by decide⟩
    have DD : Hid (DocS w.heap.size w9 n a g N (List.replicate N 0)) := ⟨HA.out.below hBw.out, hrow.mono (by omega), List.length_replicate, hN0.out, HSN.out, fun x hx hne => by have := hfar x hx hne; omega, inr0⟩
    have t0 := hblk.cell (k := 0) rfl
    have t1 := hblk.cell (k := 1) rfl
    have t2 := hblk.cell (k := 2) rfl
    simp only [List.getElem_toArray, List.getElem_cons_zero, List.getElem_cons_succ] at t0 t1 t2
    clear hC9 hblk hrow hbut
    go_wp2
    refine bodyPost_ret (v := .agg #[.int .i64 n.nodes, .slice a n.arcs.length c, .slice (some ⟨g, 0, none⟩) N N]) (by simp [results, Try.results17, go_sem, t0, t1, t2]) rfl ?_
    exact ⟨g, rfl, DD.out, hBw.out⟩
end Go.Proofs.Ytancphohpedigaa

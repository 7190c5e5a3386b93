/- Texts of one chain, laid one behind the other. -/
import Derived.Test.YtdjplmlfcolklaaPartCodeChecks13
import Derived.Test.YtdjplmlfcolklaaPartCodeChecks14
namespace Go.Proofs.Ytdjplmlfcolklaa
open Go.ChangeShapes Go.WideShapes Go.ChangeAt Go.RowKit
theorem Try.infoHd : (Try.prog.info? 136).map (fun i => (i.zero, i.size, i.bytes)) = some (some (.agg #[.int .i64 0, .int .i64 0, .int .i64 0, .int .i64 0]), 4, 32) := by kernel_rfl
theorem hdV_one (x : HdC) : ∀ u ∈ hdV x, u.oneCell' = true := by
  intro u hu
  simp only [hdV, List.mem_cons, List.not_mem_nil, or_false] at hu
  rcases hu with rfl | rfl | rfl | rfl <;> rfl
/-- A track as it lies at K. -/
structure TrkA (B K : Nat) (w : World) (t : TrkC) (a : Option Addr) (c : Nat) : Prop where
  box : BlkA 94 K w #[.slice a t.opn.length c, .int .i64 t.steps]
  own : CapV 136 hdV 4 B w a c t.opn
  apart : ∀ x, a = some x → x.block ≠ K
  le : B ≤ K
theorem TrkA.below {B K w w' t a c} (h : TrkA B K w t a c) (hb : Below w.heap.size w w') : TrkA B K w' t a c := ⟨h.box.below hb, h.own.later hb, h.apart, h.le⟩
/-- Heads that are open stand at places that have been passed. -/
theorem run_place (p : PrgC) : ∀ k, (∀ h ∈ (runC p k).2.opn, h.place < (k : Int)) ∧ (runC p k).2.opn.length ≤ k
  | 0 => ⟨(fun h hh => by cases hh), Nat.le_refl _⟩
  | k + 1 => by
    obtain ⟨i1, i2⟩ := run_place p k
    have step : ∀ t : TrkC, (∀ h ∈ t.opn, h.place < (k : Int)) ∧ t.opn.length ≤ k → (∀ h ∈ t.opn, h.place < ((k + 1 : Nat) : Int)) ∧ t.opn.length ≤ k + 1 := fun t ht => ⟨fun h hh => by have := ht.1 h hh; omega, by omega⟩
    rw [runC]
    by_cases h1 : (runC p k).1 = 0
    · rw [if_pos h1]
      by_cases h2 : mayC p (nthO p.ops k) k = true
      · rw [if_pos h2]
        generalize (runC p k).2 = t at *
        generalize nthO p.ops k = q at *
        unfold passC
        by_cases k1 : q.kind = 1
        · rw [if_pos k1]
          by_cases hh : hasC t.opn q.a = true
          · rw [if_pos hh]; exact step t ⟨i1, i2⟩
          · rw [if_neg hh]
            refine ⟨fun h hm => ?_, by simp only [List.length_append, List.length_singleton]; omega⟩
            rcases List.mem_append.1 hm with hm | hm
            · have := i1 h hm; omega
            · rw [List.mem_singleton.1 hm]; show (k : Int) < _; omega
        · rw [if_neg k1]
          by_cases k2 : q.kind = 2
          · rw [if_pos k2]
            split
            · exact step t ⟨i1, i2⟩
            · split
              · refine ⟨fun h hm => ?_, by simp only [List.length_dropLast]; omega⟩
                have := i1 h (List.dropLast_subset _ hm); omega
              · exact step t ⟨i1, i2⟩
          · rw [if_neg k2]
            split
            · exact step t ⟨i1, i2⟩
            · exact ⟨(step t ⟨i1, i2⟩).1, (step t ⟨i1, i2⟩).2⟩
      · rw [if_neg h2]; exact step _ ⟨i1, i2⟩
    · rw [if_neg h1]; exact step _ ⟨i1, i2⟩
set_option maxRecDepth 100000 in
set_option maxHeartbeats 1000000 in
theorem trackAdd_any (B K : Nat) (w : World) (t : TrkC) (a : Option Addr) (c : Nat) (h : TrkA B K w t a c) (k : Int) (hk : 0 ≤ k ∧ k ≤ 1000000000) (hs : 0 ≤ t.steps ∧ t.steps ≤ 131073) :
    Calls Try.prog 76 #[.pointer (some ⟨K, 0, none⟩), .int .i64 k] w fun e w' => e = .returned (.tuple #[]) ∧ TrkA B K w' ⟨t.opn, addC t.steps k⟩ a c ∧ But K w w' := by
  have y1 := h.box.cell (k := 1) rfl
  simp only [List.getElem_toArray, List.getElem_cons_zero, List.getElem_cons_succ] at y1
  have f1 := h.box.frozen 1
  have hw : IntKind.i64.wrap (t.steps + k) = t.steps + k := by rw [wrapC]; unfold wrap64; omega
  have H := hiddenC h
  obtain ⟨s, hse⟩ : ∃ s, t.steps = s := ⟨_, rfl⟩
  have HS := hiddenC hse
  rw [hse] at y1 hw
  have HA : Hid (addC s k = min 131073 (s + k)) := rfl
  rw [hse]
  generalize addC s k = z at *
  obtain ⟨x, hx⟩ : ∃ x, s + k = x := ⟨_, rfl⟩
  rw [hx] at hw HA
  have fin : Hid (∀ y, min 131073 x = y → TrkA B K (w.setCell ⟨K, 1, none⟩ (.int .i64 y)) ⟨t.opn, z⟩ a c ∧ But K w (w.setCell ⟨K, 1, none⟩ (.int .i64 y))) := fun y hy => by
    rw [HA.out, hy]
    exact ⟨⟨H.out.box.set 1 _, H.out.own.but (But.set _ _ _ _) H.out.apart, H.out.apart, H.out.le⟩, But.set _ _ _ _⟩
  clear h hk hs hse H HA HS
  go_enter Try.func76, Try.ntmps76
  go_wp2
  all_goals refine bodyPost_end (v := .tuple #[]) (by simp [results, Try.results76, go_sem]) rfl ?_
  all_goals exact ⟨rfl, fin.out _ (by omega)⟩
theorem hasC_drop {o : List HdC} {k : Nat} {c : Int} (hk : k < o.length) : hasC (o.drop k) c = (decide (o[k].counter = c) || hasC (o.drop (k + 1)) c) := by
  unfold hasC
  rw [List.drop_eq_getElem_cons hk, List.any_cons]
set_option maxRecDepth 100000 in
set_option maxHeartbeats 4000000 in
theorem trackEnter_any (B K : Nat) (w : World) (t : TrkC) (a : Option Addr) (c : Nat) (h : TrkA B K w t a c) (hB : B ≤ w.heap.size) (kd qa qb at_ : Int) (hl : t.opn.length ≤ 1000000) :
    Calls Try.prog 74 #[.pointer (some ⟨K, 0, none⟩), .agg #[.int .u8 kd, .int .i64 qa, .int .i64 qb], .int .i64 at_] w fun e w' => (hasC t.opn qa = true → e = .returned (.int .i64 201) ∧ TrkA B K w' t a c) ∧ (hasC t.opn qa = false → e = .returned (.int .i64 0) ∧ ∃ a' c', TrkA B K w' ⟨t.opn ++ [⟨at_, qa, qb, t.steps⟩], 0⟩ a' c') ∧ Below B w w' := by
  obtain ⟨PE, hPE⟩ : ∃ Q : Ending → World → Prop, (fun e w' => (hasC t.opn qa = true → e = .returned (.int .i64 201) ∧ TrkA B K w' t a c) ∧ (hasC t.opn qa = false → e = .returned (.int .i64 0) ∧ ∃ a' c', TrkA B K w' ⟨t.opn ++ [⟨at_, qa, qb, t.steps⟩], 0⟩ a' c') ∧ Below B w w') = Q := ⟨_, rfl⟩
  rw [hPE]
  have HPE := hiddenC hPE
  have KL := hiddenC h.box.lt
  have RL := hiddenC (fun x hx => (h.own.lt x hx).2)
  have RB := hiddenC (fun x hx => (h.own.lt x hx).1)
  have b0 := (Below.refl w.heap.size w).alloc (Nat.le_refl _) (.cells #[.int .u8 kd, .int .i64 qa, .int .i64 qb] 53)
  have B0 := hiddenC b0
  have H0 := hiddenC (h.below b0)
  have g0 := blkA_new 53 w #[.int .u8 kd, .int .i64 qa, .int .i64 qb]
  have G0 := hiddenC g0
  have BH := hiddenC hB
  have y0 := H0.out.box.cell (k := 0) rfl
  simp only [List.getElem_toArray, List.getElem_cons_zero] at y0
  have hsz : (w.alloc (.cells #[.int .u8 kd, .int .i64 qa, .int .i64 qb] 53)).heap.size = w.heap.size + 1 := World.size_alloc ..
  have SZ := hiddenC hsz
  obtain ⟨zs, hzs⟩ : ∃ z, t.opn = z := ⟨_, rfl⟩
  obtain ⟨st, hst⟩ : ∃ z, t.steps = z := ⟨_, rfl⟩
  have HZ := hiddenC hzs
  have HS := hiddenC hst
  rw [hzs] at y0 hl
  obtain ⟨m, hm⟩ : ∃ m, zs.length = m := ⟨_, rfl⟩
  have HM := hiddenC hm
  rw [hm] at y0 hl
  clear hPE b0 h hB g0 hsz hzs hst hm
  go_enter Try.func74, Try.ntmps74
  go_upto_region 1 with fail
  generalize w.alloc (.cells #[.int .u8 kd, .int .i64 qa, .int .i64 qb] 53) = W1 at *
  go_wp2
  go_loopg [14] m (fun gk u wr => ∃ k : Nat, k ≤ m ∧ gk = m - k ∧ u = .int .i64 (k : Int) ∧ hasC (zs.drop k) qa = hasC zs qa ∧ Below W1.heap.size W1 wr)
  case atStart => exact ⟨0, Nat.zero_le _, rfl, rfl, by rw [List.drop_zero], Below.refl _ _⟩
  case round =>
    obtain ⟨k, hk, rfl, rfl, hr, hB⟩ := hrel
    have HR := hiddenC hr
    have HB := hiddenC hB
    clear hr hB y0
    have HT := hiddenC (H0.out.below HB.out)
    by_cases hlt : k < m
    · have hki : (k : Int) < (m : Int) := by omega
      have hkL : k < zs.length := by rw [HM.out]; exact hlt
      have hA := HT.out.own.at hdV_len
      rw [HZ.out] at hA
      rcases hA with e1 | ⟨ab, off, rfl, hc⟩
      · rw [e1] at hkL; exact absurd hkL (Nat.not_lt_zero _)
      have hg : zs[k]? = some zs[k] := List.getElem?_eq_getElem hkL
      have c0 := hc k _ hg 0 _ rfl
      have c1 := hc k _ hg 1 _ rfl
      have c2 := hc k _ hg 2 _ rfl
      have c3 := hc k _ hg 3 _ rfl
      have RE := HR.out
      rw [hasC_drop hkL] at RE
      obtain ⟨x, hx⟩ : ∃ x, zs[k] = x := ⟨_, rfl⟩
      rw [hx] at c0 c1 c2 c3 RE
      clear hc hg HR hx hkL
      obtain ⟨x0, x1, x2, x3⟩ := x
      simp only [Nat.add_zero] at c0 c1 c2 c3 RE
      have b1 : Hid (Below wr.heap.size wr (wr.alloc (.cells #[.int .i64 x0, .int .i64 x1, .int .i64 x2, .int .i64 x3] 136))) := (Below.refl _ _).alloc (Nat.le_refl _) _
      have HB1 := hiddenC (HB.out.trans (b1.out.mono HB.out.size))
      have HT1 := hiddenC (HT.out.below b1.out)
      have Gx := hiddenC (blkA_new 136 wr #[.int .i64 x0, .int .i64 x1, .int .i64 x2, .int .i64 x3])
      have RE2 := hiddenC RE
      clear RE
      go_upto_region 4 with fail
      generalize wr.alloc (.cells #[.int .i64 x0, .int .i64 x1, .int .i64 x2, .int .i64 x3] 136) = W2 at *
      have z1 := Gx.out.cell (k := 1) rfl
      have e1 := (G0.out.below HB1.out).cell (k := 1) rfl
      simp only [List.getElem_toArray, List.getElem_cons_zero, List.getElem_cons_succ] at z1 e1
      clear c0 c1 c2 c3 b1
      by_cases hx : x1 = qa
      · have q0 : (x1 == qa) = true := by simpa using hx
        have RE3 : Hid (hasC zs qa = true) := by
          have q := RE2.out
          rw [decide_eq_true hx, Bool.true_or] at q
          exact q.symm
        clear hx
        go_wp2
        rw [← HPE.out, HZ.out]
        refine ⟨fun _ => ⟨rfl, HT1.out⟩, fun e => absurd (e.symm.trans RE3.out) (by decide), ?_⟩
        exact ((B0.out.trans (HB1.out.mono (by rw [SZ.out]; omega))).mono BH.out)
      · have q0 : (x1 == qa) = false := by simpa using hx
        have RE3 : Hid (hasC (zs.drop (k + 1)) qa = hasC zs qa) := by
          have q := RE2.out
          rw [decide_eq_false hx, Bool.false_or] at q
          exact q
        clear hx
        go_wp2
        go_roundg (m - (k + 1))
        case measure => omega
        case rel => exact ⟨k + 1, by omega, rfl, by go_num, RE3.out, HB1.out⟩
    · have hki : ¬ (k : Int) < (m : Int) := by omega
      have HN : Hid (hasC zs qa = false) := by
        have q := HR.out
        rw [List.drop_eq_nil_of_le (by rw [HM.out]; omega)] at q
        rw [← q]; rfl
      have e1 := (G0.out.below HB.out).cell (k := 1) rfl
      have e2 := (G0.out.below HB.out).cell (k := 2) rfl
      simp only [List.getElem_toArray, List.getElem_cons_zero, List.getElem_cons_succ] at e1 e2
      clear HR
      go_upto_region 7 with fail
      obtain ⟨ob, hob⟩ : ∃ b, w.heap.size = b := ⟨_, rfl⟩
      have OBQ := hiddenC hob
      have NE : Hid (ob ≠ K) := by have := KL.out; show ob ≠ K; omega
      have ND : Hid (∀ y, a = some y → y.block ≠ ob) := fun y hy => by have := RL.out y hy; omega
      have AP := hiddenC HT.out.apart
      have ZL : Hid (zs.length ≤ 100000000000) := by show _ ≤ _; rw [HM.out]; omega
      have BW : Hid (B ≤ wr.heap.size) := Nat.le_trans BH.out (Nat.le_trans (by rw [SZ.out]; omega) HB.out.size)
      have ROW : Hid (CapV 136 hdV 4 B wr a c zs) := by have q := HT.out.own; rw [HZ.out] at q; exact q
      have BOX : Hid (BlkA 94 K wr #[.slice a zs.length c, .int .i64 st]) := by have q := HT.out.box; rw [HZ.out, HS.out] at q; exact q
      rw [hob] at e1 e2 ⊢
      rw [← HM.out]
      clear hob hlt hki
      refine wp_region_gen [16, 19] (fun d_ i u z => match i with
          | 0 => z = .pointer (some ⟨K, 0, none⟩)
          | 1 => z = .pointer (some ⟨K, 0, none⟩)
          | 2 => z = .pointer (some ⟨K, 0, none⟩)
          | 3 => z = .pointer (some ⟨K, 0, none⟩)
          | 4 => z = .slice a zs.length c
          | 5 => z = .int .i64 at_
          | 6 => z = .pointer (some ⟨ob, 1, none⟩)
          | 7 => z = .int .i64 qa
          | 8 => z = .pointer (some ⟨ob, 2, none⟩)
          | 9 => z = .int .i64 qb
          | 10 => z = .pointer (some ⟨K, 0, none⟩)
          | 11 => z = .pointer (some ⟨K, 0, none⟩)
          | 12 => z = .pointer (some ⟨K, 1, none⟩)
          | 13 => z = .int .i64 st
          | 14 => z = .agg #[.int .i64 at_, .int .i64 qa, .int .i64 qb, .int .i64 st]
          | 15 => (d_ 16 = false → ElV hdV (⟨at_, qa, qb, st⟩ : HdC) u z)
          | 16 => (d_ 16 = true ∧ (d_ 19 = false → SlV 136 hdV 4 B K a wr.heap.size (zs ++ [(⟨at_, qa, qb, st⟩ : HdC)]) u z))
          | 17 => z = .pointer (some ⟨K, 0, none⟩)
          | 18 => z = .pointer (some ⟨K, 0, none⟩)
          | 19 => True
          | _ => True) (fun d_ u => GoV 94 K 0 #[.slice a zs.length c, .int .i64 st] 136 hdV 4 B a c zs (⟨at_, qa, qb, st⟩ : HdC) wr 16 19 d_ u) (by kernel_rfl) (by kernel_rfl) (by kernel_rfl) ?_ ?_ ?_ ?_ ?_ ?_ (by kernel_rfl)
      · intro d_ i w_ v_ w' h hb_
        match i, h with
        | 0, h => exact h
        | 1, h => exact h
        | 2, h => exact h
        | 3, h => exact h
        | 4, h => exact h
        | 5, h => exact h
        | 6, h => exact h
        | 7, h => exact h
        | 8, h => exact h
        | 9, h => exact h
        | 10, h => exact h
        | 11, h => exact h
        | 12, h => exact h
        | 13, h => exact h
        | 14, h => exact h
        | 15, h => exact fun e => (h e).later hb_
        | 16, h => exact ⟨h.1, fun e => (h.2 e).later hb_⟩
        | 17, h => exact h
        | 18, h => exact h
        | 19, h => exact h
        | _ + 20, _ => trivial
      · intro d_ u u' h hb_
        exact h.later hb_
      · exact GoV.start ROW.out BOX.out
      · intro d_ i o ρ w' hm ho hf hg hC hcs hfs hfr hdep
        match i, hm, ho, hf, hg, hfr, hdep with
        | 0, _, ho, hf, hg, hfr, hdep =>
          simp only [gTA, gCZ, gSI] at ho
          subst ho
          refine ⟨fun _ => ?_, fun hw => absurd (show true = false from hw) (by decide)⟩
          have ts : ρ (.tmp 0) = .pointer (some ⟨K, 0, none⟩) := hfr 0 (by kernel_rfl)
          simp [go_sem, ts]
          exact ⟨Below.refl _ _, rfl⟩
        | 1, _, ho, hf, hg, hfr, hdep =>
          simp only [gTA, gCZ, gCS, gSI] at ho
          subst ho
          refine ⟨fun _ => ?_, fun hw => absurd (show true = false from hw) (by decide)⟩
          have ts : ρ (.tmp 0) = .pointer (some ⟨K, 0, none⟩) := hfr 0 (by kernel_rfl)
          simp [go_sem, ts]
          exact ⟨Below.refl _ _, rfl⟩
        | 2, _, ho, hf, hg, hfr, hdep =>
          simp only [gTA, gCZ, gCS, gSI] at ho
          subst ho
          refine ⟨fun _ => ?_, fun hw => absurd (show true = false from hw) (by decide)⟩
          have d0 : ρ (.tmp 25) = .pointer (some ⟨K, 0, none⟩) := hdep 1 25 (by kernel_rfl) (by kernel_rfl)
          simp [go_sem, d0]
          exact ⟨Below.refl _ _, rfl⟩
        | 3, _, ho, hf, hg, hfr, hdep =>
          simp only [gTA, gCZ, gCS, gSI] at ho
          subst ho
          refine ⟨fun _ => ?_, fun hw => absurd (show true = false from hw) (by decide)⟩
          have d0 : ρ (.tmp 26) = .pointer (some ⟨K, 0, none⟩) := hdep 2 26 (by kernel_rfl) (by kernel_rfl)
          simp [go_sem, d0]
          exact ⟨Below.refl _ _, rfl⟩
        | 4, _, ho, hf, hg, hfr, hdep =>
          simp only [gTA, gCZ, gCS, gSI] at ho
          subst ho
          refine ⟨fun _ => ?_, fun hw => absurd (show true = false from hw) (by decide)⟩
          have hs_ : d_ 19 = false := hf 19 (by decide) (by kernel_rfl)
          have cc : w'.cell? ⟨K, 0, none⟩ = some (.slice a zs.length c) := (hC.box hs_).cell rfl
          have d0 : ρ (.tmp 27) = .pointer (some ⟨K, 0, none⟩) := hdep 3 27 (by kernel_rfl) (by kernel_rfl)
          simp [go_sem, d0, cc]
          exact ⟨Below.refl _ _, rfl⟩
        | 5, _, ho, hf, hg, hfr, hdep =>
          simp only [gTA, gCZ, gCS, gSI] at ho
          subst ho
          refine ⟨fun _ => ?_, fun hw => absurd (show true = false from hw) (by decide)⟩
          have ts : ρ (.tmp 2) = .int .i64 at_ := hfr 2 (by kernel_rfl)
          simp [go_sem, ts]
          exact ⟨Below.refl _ _, rfl⟩
        | 6, _, ho, hf, hg, hfr, hdep =>
          simp only [gTA, gCZ, gCS, gSI] at ho
          subst ho
          refine ⟨fun _ => ?_, fun hw => absurd (show true = false from hw) (by decide)⟩
          have ts : ρ (.tmp 4) = .pointer (some ⟨ob, 0, none⟩) := hfr 4 (by kernel_rfl)
          simp [go_sem, ts]
          exact ⟨Below.refl _ _, rfl⟩
        | 7, _, ho, hf, hg, hfr, hdep =>
          simp only [gTA, gCZ, gCS, gSI] at ho
          subst ho
          refine ⟨fun _ => ?_, fun hw => absurd (show true = false from hw) (by decide)⟩
          have cc := hC.sta.cell e1 NE.out ND.out
          have d0 : ρ (.tmp 30) = .pointer (some ⟨ob, 1, none⟩) := hdep 6 30 (by kernel_rfl) (by kernel_rfl)
          simp [go_sem, d0, cc]
          exact ⟨Below.refl _ _, rfl⟩
        | 8, _, ho, hf, hg, hfr, hdep =>
          simp only [gTA, gCZ, gCS, gSI] at ho
          subst ho
          refine ⟨fun _ => ?_, fun hw => absurd (show true = false from hw) (by decide)⟩
          have ts : ρ (.tmp 4) = .pointer (some ⟨ob, 0, none⟩) := hfr 4 (by kernel_rfl)
          simp [go_sem, ts]
          exact ⟨Below.refl _ _, rfl⟩
        | 9, _, ho, hf, hg, hfr, hdep =>
          simp only [gTA, gCZ, gCS, gSI] at ho
          subst ho
          refine ⟨fun _ => ?_, fun hw => absurd (show true = false from hw) (by decide)⟩
          have cc := hC.sta.cell e2 NE.out ND.out
          have d0 : ρ (.tmp 32) = .pointer (some ⟨ob, 2, none⟩) := hdep 8 32 (by kernel_rfl) (by kernel_rfl)
          simp [go_sem, d0, cc]
          exact ⟨Below.refl _ _, rfl⟩
        | 10, _, ho, hf, hg, hfr, hdep =>
          simp only [gTA, gCZ, gCS, gSI] at ho
          subst ho
          refine ⟨fun _ => ?_, fun hw => absurd (show true = false from hw) (by decide)⟩
          have ts : ρ (.tmp 0) = .pointer (some ⟨K, 0, none⟩) := hfr 0 (by kernel_rfl)
          simp [go_sem, ts]
          exact ⟨Below.refl _ _, rfl⟩
        | 11, _, ho, hf, hg, hfr, hdep =>
          simp only [gTA, gCZ, gCS, gSI] at ho
          subst ho
          refine ⟨fun _ => ?_, fun hw => absurd (show true = false from hw) (by decide)⟩
          have d0 : ρ (.tmp 34) = .pointer (some ⟨K, 0, none⟩) := hdep 10 34 (by kernel_rfl) (by kernel_rfl)
          simp [go_sem, d0]
          exact ⟨Below.refl _ _, rfl⟩
        | 12, _, ho, hf, hg, hfr, hdep =>
          simp only [gTA, gCZ, gCS, gSI] at ho
          subst ho
          refine ⟨fun _ => ?_, fun hw => absurd (show true = false from hw) (by decide)⟩
          have d0 : ρ (.tmp 35) = .pointer (some ⟨K, 0, none⟩) := hdep 11 35 (by kernel_rfl) (by kernel_rfl)
          simp [go_sem, d0]
          exact ⟨Below.refl _ _, rfl⟩
        | 13, _, ho, hf, hg, hfr, hdep =>
          simp only [gTA, gCZ, gCS, gSI] at ho
          subst ho
          refine ⟨fun _ => ?_, fun hw => absurd (show true = false from hw) (by decide)⟩
          have hs_ : d_ 19 = false := hf 19 (by decide) (by kernel_rfl)
          have cc : w'.cell? ⟨K, 1, none⟩ = some (.int .i64 st) := (hC.box hs_).cell rfl
          have d0 : ρ (.tmp 36) = .pointer (some ⟨K, 1, none⟩) := hdep 12 36 (by kernel_rfl) (by kernel_rfl)
          simp [go_sem, d0, cc]
          exact ⟨Below.refl _ _, rfl⟩
        | 14, _, ho, hf, hg, hfr, hdep =>
          simp only [gTA, gCZ, gCS, gSI] at ho
          subst ho
          refine ⟨fun _ => ?_, fun hw => absurd (show true = false from hw) (by decide)⟩
          have d0 : ρ (.tmp 29) = .int .i64 at_ := hdep 5 29 (by kernel_rfl) (by kernel_rfl)
          have d1 : ρ (.tmp 31) = .int .i64 qa := hdep 7 31 (by kernel_rfl) (by kernel_rfl)
          have d2 : ρ (.tmp 33) = .int .i64 qb := hdep 9 33 (by kernel_rfl) (by kernel_rfl)
          have d3 : ρ (.tmp 37) = .int .i64 st := hdep 13 37 (by kernel_rfl) (by kernel_rfl)
          simp [go_sem, d0, d1, d2, d3]
          exact ⟨Below.refl _ _, rfl⟩
        | 15, _, ho, hf, hg, hfr, hdep =>
          simp only [gTA, gCZ, gCS, gSI] at ho
          subst ho
          refine ⟨fun _ => ?_, fun hw => absurd (show true = false from hw) (by decide)⟩
          have t0 : ρ (.tmp 38) = .agg #[.int .i64 at_, .int .i64 qa, .int .i64 qb, .int .i64 st] := hdep 14 38 (by kernel_rfl) (by kernel_rfl)
          simp [go_sem, t0]
          exact ⟨(Below.refl _ _).alloc (Nat.le_refl _) _, fun _ => elV_new w' 136 #[.int .i64 at_, .int .i64 qa, .int .i64 qb, .int .i64 st] rfl⟩
        | 16, hm, _, _, _, _, _ => exact absurd hm (by decide)
        | 17, _, ho, hf, hg, hfr, hdep =>
          simp only [gTA, gCZ, gCS, gSI] at ho
          subst ho
          refine ⟨fun _ => ?_, fun hw => absurd (show true = false from hw) (by decide)⟩
          have d0 : ρ (.tmp 24) = .pointer (some ⟨K, 0, none⟩) := hdep 0 24 (by kernel_rfl) (by kernel_rfl)
          simp [go_sem, d0]
          exact ⟨Below.refl _ _, rfl⟩
        | 18, _, ho, hf, hg, hfr, hdep =>
          simp only [gTA, gCZ, gCS, gSI] at ho
          subst ho
          refine ⟨fun _ => ?_, fun hw => absurd (show true = false from hw) (by decide)⟩
          have d0 : ρ (.tmp 41) = .pointer (some ⟨K, 0, none⟩) := hdep 17 41 (by kernel_rfl) (by kernel_rfl)
          simp [go_sem, d0]
          exact ⟨Below.refl _ _, rfl⟩
        | 19, hm, _, _, _, _, _ => exact absurd hm (by decide)
        | n + 20, _, ho, _, _, _, _ => simp at ho
      · intro d_ i o ρ w' hm ho h0 hf hg hC hcs hfs hfr hdep
        match i, hm, ho, h0, hf, hg, hfr, hdep with
        | 0, hm, _, _, _, _, _, _ => exact absurd hm (by decide)
        | 1, hm, _, _, _, _, _, _ => exact absurd hm (by decide)
        | 2, hm, _, _, _, _, _, _ => exact absurd hm (by decide)
        | 3, hm, _, _, _, _, _, _ => exact absurd hm (by decide)
        | 4, hm, _, _, _, _, _, _ => exact absurd hm (by decide)
        | 5, hm, _, _, _, _, _, _ => exact absurd hm (by decide)
        | 6, hm, _, _, _, _, _, _ => exact absurd hm (by decide)
        | 7, hm, _, _, _, _, _, _ => exact absurd hm (by decide)
        | 8, hm, _, _, _, _, _, _ => exact absurd hm (by decide)
        | 9, hm, _, _, _, _, _, _ => exact absurd hm (by decide)
        | 10, hm, _, _, _, _, _, _ => exact absurd hm (by decide)
        | 11, hm, _, _, _, _, _, _ => exact absurd hm (by decide)
        | 12, hm, _, _, _, _, _, _ => exact absurd hm (by decide)
        | 13, hm, _, _, _, _, _, _ => exact absurd hm (by decide)
        | 14, hm, _, _, _, _, _, _ => exact absurd hm (by decide)
        | 15, hm, _, _, _, _, _, _ => exact absurd hm (by decide)
        | 16, _, ho, h0, hf, hg, hfr, hdep =>
          simp only [gTA, gCZ, gCS, gSI] at ho
          subst ho
          have t0 : ρ (.tmp 28) = .slice a zs.length c := hdep 4 28 (by kernel_rfl) (by kernel_rfl)
          have t5 : ElV hdV (⟨at_, qa, qb, st⟩ : HdC) w' (ρ (.tmp 39)) := hdep 15 39 (by kernel_rfl) (by kernel_rfl) h0
          have hs_ : d_ 19 = false := hf 19 (by decide) (by kernel_rfl)
          refine ⟨rfl, mark_appV (.tmp 28) (.tmp 39) 92 rfl Try.underlying92 _ 32 Try.infoHd rfl (by decide) (by decide) hdV_len hdV_one t0 (hC.row h0) AP.out (hC.box hs_).lt hC.sta t5 ZL.out (Nat.le_trans BW.out hC.sta.size) ?_⟩
          intro u9 v9 hS9 hT9 hK9
          refine ⟨hC.app (by decide) hs_ hT9 hK9, fun _ => ⟨doneC_eq _ _, fun _ => hS9⟩, ?_⟩
          intro j t hj hs
          match j, hs with
          | 0, hs => exact hs
          | 1, hs => exact hs
          | 2, hs => exact hs
          | 3, hs => exact hs
          | 4, hs => exact hs
          | 5, hs => exact hs
          | 6, hs => exact hs
          | 7, hs => exact hs
          | 8, hs => exact hs
          | 9, hs => exact hs
          | 10, hs => exact hs
          | 11, hs => exact hs
          | 12, hs => exact hs
          | 13, hs => exact hs
          | 14, hs => exact hs
          | 15, hs => exact fun e => absurd e (by rw [doneC_eq]; decide)
          | 16, hs => exact absurd hs.1 (by rw [h0]; decide)
          | 17, hs => exact hs
          | 18, hs => exact hs
          | 19, hs => trivial
          | _ + 20, _ => trivial
        | 17, hm, _, _, _, _, _, _ => exact absurd hm (by decide)
        | 18, hm, _, _, _, _, _, _ => exact absurd hm (by decide)
        | 19, _, ho, h0, hf, hg, hfr, hdep =>
          simp only [gTA, gCZ, gCS, gSI] at ho
          subst ho
          have t0 : ρ (.tmp 42) = .pointer (some ⟨K, 0, none⟩) := hdep 18 42 (by kernel_rfl) (by kernel_rfl)
          have t9 : d_ 16 = true ∧ (d_ 19 = false → SlV 136 hdV 4 B K a wr.heap.size (zs ++ [(⟨at_, qa, qb, st⟩ : HdC)]) w' (ρ (.tmp 40))) := hdep 16 40 (by kernel_rfl) (by kernel_rfl)
          have hZ := t9.2 h0
          have hZ2 := hZ
          obtain ⟨qd, qk, e9, -, -, -⟩ := hZ
          rw [e9] at hZ2
          have hF := hC.store (by decide) t9.1 h0 hZ2
          have c1_ := (hC.box h0).cell (k := 0) rfl
          have f1 := (hC.box h0).frozen 0
          refine ⟨rfl, markUpon_skip (w' := w'.setCell ⟨K, 0, none⟩ (.slice qd (zs ++ [(⟨at_, qa, qb, st⟩ : HdC)]).length qk)) (by simp [go_sem, t0, e9, c1_, f1]) ?_⟩
          refine ⟨hF, fun h => absurd rfl h, ?_⟩
          intro j t hj hs
          match j, hs with
          | 0, hs => exact hs
          | 1, hs => exact hs
          | 2, hs => exact hs
          | 3, hs => exact hs
          | 4, hs => exact hs
          | 5, hs => exact hs
          | 6, hs => exact hs
          | 7, hs => exact hs
          | 8, hs => exact hs
          | 9, hs => exact hs
          | 10, hs => exact hs
          | 11, hs => exact hs
          | 12, hs => exact hs
          | 13, hs => exact hs
          | 14, hs => exact hs
          | 15, hs => exact fun e => absurd ((doneC_ne d_ (by decide)).symm.trans e) (by rw [t9.1]; decide)
          | 16, hs => exact ⟨(doneC_ne d_ (by decide)).trans hs.1, fun e => absurd e (by rw [doneC_eq]; decide)⟩
          | 17, hs => exact hs
          | 18, hs => exact hs
          | 19, hs => trivial
          | _ + 20, _ => trivial
        | n + 20, _, ho, _, _, _, _, _ => simp at ho
      · intro U8 V8x hC8 hS
        simp only [puts, put_none]
        simp only [Act.put, List.setIfInBounds_toArray, List.set_cons_zero, List.set_cons_succ]
        clear hS 
        obtain ⟨d, k1, f0, f1, f2, -⟩ := hC8.fin (by decide)
        have FB : Hid (BlkA 94 K V8x #[.slice d (zs ++ [(⟨at_, qa, qb, st⟩ : HdC)]).length k1, .int .i64 st]) := f0
        have FC := hiddenC f1
        have FA := hiddenC f2
        have FS := hiddenC (hC8.sta.below H0.out.le RB.out BW.out)
        have y1 := FB.out.cell (k := 1) rfl
        simp only [List.getElem_toArray, List.getElem_cons_zero, List.getElem_cons_succ] at y1
        have fz := FB.out.frozen 1
        clear f0 f1 f2 hC8 e1 e2
        go_wp2
        rw [← HPE.out, HZ.out, HS.out]
        refine ⟨fun e => absurd (e.symm.trans HN.out) (by decide), fun _ => ⟨rfl, d, k1, ?_⟩, ?_⟩
        · exact ⟨FB.out.set 1 _, FC.out.but (But.set _ _ _ _) FA.out, FA.out, H0.out.le⟩
        · exact ((B0.out.trans (HB.out.mono (by rw [SZ.out]; omega))).mono BH.out).trans (FS.out.trans ((But.set _ _ _ _).below H0.out.le (Nat.le_trans BW.out FS.out.size)))
set_option maxRecDepth 100000 in
set_option maxHeartbeats 1000000 in
theorem trackLeave_nil (B K : Nat) (w : World) (t : TrkC) (a : Option Addr) (c : Nat) (h : TrkA B K w t a c) (hB : B ≤ w.heap.size) (kd qa qb : Int) (hl : t.opn = []) :
    Calls Try.prog 75 #[.pointer (some ⟨K, 0, none⟩), .agg #[.int .u8 kd, .int .i64 qa, .int .i64 qb]] w fun e w' => e = .returned (.int .i64 201) ∧ TrkA B K w' t a c ∧ Below B w w' := by
  have b0 := (Below.refl w.heap.size w).alloc (Nat.le_refl _) (.cells #[.int .u8 kd, .int .i64 qa, .int .i64 qb] 53)
  have B0 := hiddenC b0
  have H0 := hiddenC (h.below b0)
  have BH := hiddenC hB
  have y0 := H0.out.box.cell (k := 0) rfl
  simp only [List.getElem_toArray, List.getElem_cons_zero] at y0
  rw [hl, List.length_nil] at y0
  clear b0 h hB hl
  go_enter Try.func75, Try.ntmps75
  go_upto_region 1 with fail
  generalize w.alloc (.cells #[.int .u8 kd, .int .i64 qa, .int .i64 qb] 53) = W1 at *
  go_wp2
  go_ret
  exact ⟨rfl, H0.out, B0.out.mono BH.out⟩
set_option maxRecDepth 100000 in
set_option maxHeartbeats 4000000 in
theorem trackLeave_snoc (B K : Nat) (w : World) (l : List HdC) (hd : HdC) (st : Int) (a : Option Addr) (c : Nat) (h : TrkA B K w ⟨l ++ [hd], st⟩ a c) (hB : B ≤ w.heap.size) (kd qa qb : Int) (hl : l.length ≤ 1000000) (hst : 0 ≤ st ∧ st ≤ 131073)
    (ha : 0 ≤ hd.ahead ∧ hd.ahead ≤ 131073) (ht : 1 ≤ hd.times ∧ hd.times ≤ 2048) (hp : 0 ≤ hd.place ∧ hd.place ≤ 1000000) :
    Calls Try.prog 75 #[.pointer (some ⟨K, 0, none⟩), .agg #[.int .u8 kd, .int .i64 qa, .int .i64 qb]] w fun e w' => ((qa = hd.counter ∧ qb = hd.place + 1) → e = .returned (.int .i64 0) ∧ TrkA B K w' ⟨l, addC hd.ahead (1 + hd.times * (st + 1))⟩ a c) ∧ (¬ (qa = hd.counter ∧ qb = hd.place + 1) → e = .returned (.int .i64 201) ∧ TrkA B K w' ⟨l ++ [hd], st⟩ a c) ∧ Below B w w' := by
  obtain ⟨PE, hPE⟩ : ∃ Q : Ending → World → Prop, (fun e w' => ((qa = hd.counter ∧ qb = hd.place + 1) → e = .returned (.int .i64 0) ∧ TrkA B K w' ⟨l, addC hd.ahead (1 + hd.times * (st + 1))⟩ a c) ∧ (¬ (qa = hd.counter ∧ qb = hd.place + 1) → e = .returned (.int .i64 201) ∧ TrkA B K w' ⟨l ++ [hd], st⟩ a c) ∧ Below B w w') = Q := ⟨_, rfl⟩
  rw [hPE]
  have HPE := hiddenC hPE
  have KL := hiddenC h.box.lt
  have b0 := (Below.refl w.heap.size w).alloc (Nat.le_refl _) (.cells #[.int .u8 kd, .int .i64 qa, .int .i64 qb] 53)
  have B0 := hiddenC b0
  have H0 := hiddenC (h.below b0)
  have g0 := blkA_new 53 w #[.int .u8 kd, .int .i64 qa, .int .i64 qb]
  have G0 := hiddenC g0
  have BH := hiddenC hB
  have hsz : (w.alloc (.cells #[.int .u8 kd, .int .i64 qa, .int .i64 qb] 53)).heap.size = w.heap.size + 1 := World.size_alloc ..
  have SZ := hiddenC hsz
  have y0 := H0.out.box.cell (k := 0) rfl
  have z0 := G0.out.cell (k := 0) rfl
  have z1 := G0.out.cell (k := 1) rfl
  have z2 := G0.out.cell (k := 2) rfl
  simp only [List.getElem_toArray, List.getElem_cons_zero, List.getElem_cons_succ] at y0 z0 z1 z2
  have RM := hiddenC h.own.room
  obtain ⟨hp0, hc0, ht0, ha0⟩ := hd
  simp only at ha ht hp HPE hPE
  have HA := hiddenC ha
  have HTM := hiddenC ht
  have HST := hiddenC hst
  obtain ⟨m, hm⟩ : ∃ m, l.length = m := ⟨_, rfl⟩
  have HM := hiddenC hm
  obtain ⟨N, hN⟩ : ∃ N, (l ++ [(⟨hp0, hc0, ht0, ha0⟩ : HdC)]).length = N := ⟨_, rfl⟩
  have hN2 : N = m + 1 := by rw [← hN, List.length_append, hm]; rfl
  have HN := hiddenC hN
  rw [hN] at y0
  rw [hm] at hl
  have RM2 : m + 1 ≤ c := by have q := RM.out; simp only at q; rw [hN] at q; omega
  have hNm : (N : Int) - 1 = (m : Int) := by omega
  have hmn : (m : Int) < (N : Int) := by omega
  have hmN : m < N := by omega
  have hmc : m ≤ c := by omega
  have hm0 : ¬ (m : Int) < 0 := by omega
  obtain ⟨b, off, rfl, hc⟩ : ∃ b off, a = some ⟨b, off, none⟩ ∧ ∀ k x, (l ++ [(⟨hp0, hc0, ht0, ha0⟩ : HdC)])[k]? = some x → ∀ j u, (hdV x)[j]? = some u → (w.alloc (.cells #[.int .u8 kd, .int .i64 qa, .int .i64 qb] 53)).cell? ⟨b, off + k * 4 + j, none⟩ = some u := by
    rcases H0.out.own.at hdV_len with e1 | e1
    · simp at e1
    · exact e1
  have hg : (l ++ [(⟨hp0, hc0, ht0, ha0⟩ : HdC)])[m]? = some ⟨hp0, hc0, ht0, ha0⟩ := by rw [← hm]; simp
  have c0 := hc m _ hg 0 _ rfl
  have c1 := hc m _ hg 1 _ rfl
  have c2 := hc m _ hg 2 _ rfl
  have c3 := hc m _ hg 3 _ rfl
  simp only [Nat.add_zero] at c0 c1 c2 c3
  have HNm := hiddenC hNm
  clear hPE b0 h hB g0 hsz hm hN hN2 hc hg ha ht hst RM2
  go_enter Try.func75, Try.ntmps75
  go_upto_region 1 with fail
  generalize w.alloc (.cells #[.int .u8 kd, .int .i64 qa, .int .i64 qb] 53) = W1 at *
  have b1 : Hid (Below W1.heap.size W1 (W1.alloc (.cells #[.int .i64 hp0, .int .i64 hc0, .int .i64 ht0, .int .i64 ha0] 136))) := (Below.refl _ _).alloc (Nat.le_refl _) _
  have Gx := hiddenC (blkA_new 136 W1 #[.int .i64 hp0, .int .i64 hc0, .int .i64 ht0, .int .i64 ha0])
  have H1 := hiddenC (H0.out.below b1.out)
  have G1 := hiddenC (G0.out.below b1.out)
  have B1 := hiddenC (B0.out.trans (b1.out.mono (by rw [SZ.out]; omega)))
  go_upto_region 5 with fail
  generalize W1.alloc (.cells #[.int .i64 hp0, .int .i64 hc0, .int .i64 ht0, .int .i64 ha0] 136) = W2 at *
  obtain ⟨hb, hhb⟩ : ∃ x, W1.heap.size = x := ⟨_, rfl⟩
  obtain ⟨ob, hob⟩ : ∃ x, w.heap.size = x := ⟨_, rfl⟩
  have NE : Hid (hb ≠ K) := by have := KL.out; have := SZ.out; show hb ≠ K; omega
  have BQ : Hid (B ≤ W2.heap.size) := by have := B1.out.size; have := BH.out; show _ ≤ _; omega
  rw [hhb] at Gx b1 ⊢
  rw [hob] at z0 z1 z2 G0 G1 ⊢
  clear c0 c1 c2 c3 y0 z0 z1 z2 b1 hhb hob
  have y0 := H1.out.box.cell (k := 0) rfl
  have z1 := G1.out.cell (k := 1) rfl
  have z2 := G1.out.cell (k := 2) rfl
  have x0 := Gx.out.cell (k := 0) rfl
  have x1 := Gx.out.cell (k := 1) rfl
  have x2 := Gx.out.cell (k := 2) rfl
  have x3 := Gx.out.cell (k := 3) rfl
  simp only [List.getElem_toArray, List.getElem_cons_zero, List.getElem_cons_succ] at y0 z1 z2 x0 x1 x2 x3
  rw [HN.out] at y0
  have hpw : IntKind.i64.wrap (hp0 + 1) = hp0 + 1 := by rw [wrapC]; unfold wrap64; omega
  clear hp
  by_cases h1 : qa = hc0
  · have q1 : (qa != hc0) = false := by simpa using h1
    by_cases h2 : qb = hp0 + 1
    · have q2 : (qb != (hp0 + 1)) = false := by simpa using h2
      have YES : Hid (qa = hc0 ∧ qb = hp0 + 1) := ⟨h1, h2⟩
      obtain ⟨p1, hp1⟩ : ∃ x, hp0 + 1 = x := ⟨_, rfl⟩
      rw [hp1] at q2 hpw
      clear h1 h2
      have f0 := H1.out.box.frozen 0
      go_upto_region 8 with fail
      have M3 := hiddenC ((H1.out.box.set 0 (.slice (some ⟨b, off, none⟩) m c)))
      have BW3 := hiddenC (But.set W2 K 0 (.slice (some ⟨b, off, none⟩) m c))
      have O3 := hiddenC ((H1.out.own.pop hdV_len).but BW3.out H1.out.apart)
      have x2' := (Gx.out.but BW3.out NE.out).cell (k := 2) rfl
      have x3' := (Gx.out.but BW3.out NE.out).cell (k := 3) rfl
      have y1 := M3.out.cell (k := 1) rfl
      have f1 := M3.out.frozen 1
      simp only [List.getElem_toArray, List.getElem_cons_zero, List.getElem_cons_succ] at x2' x3'
      have y1' : (W2.setCell ⟨K, 0, none⟩ (.slice (some ⟨b, off, none⟩) m c)).cell? ⟨K, 1, none⟩ = some (.int .i64 st) := y1
      clear y0 y1 z1 z2 x0 x1 x2 x3 q1 q2 hpw hp1 f0
      generalize W2.setCell ⟨K, 0, none⟩ (.slice (some ⟨b, off, none⟩) m c) = W3 at *
      have M4 := hiddenC (M3.out.set 1 (.int .i64 ha0))
      have BW4 := hiddenC (But.set W3 K 1 (.int .i64 ha0))
      have O4 := hiddenC (O3.out.but BW4.out H1.out.apart)
      have x2'' := (Gx.out.but (BW3.out.trans BW4.out) NE.out).cell (k := 2) rfl
      simp only [List.getElem_toArray, List.getElem_cons_zero, List.getElem_cons_succ] at x2''
      have TA : Hid (TrkA B K (W3.setCell ⟨K, 1, none⟩ (.int .i64 ha0)) ⟨l, ha0⟩ (some ⟨b, off, none⟩) c) := by
        refine ⟨?_, O4.out, H1.out.apart, H0.out.le⟩
        rw [HM.out]
        exact M4.out
      obtain ⟨r, hr⟩ : ∃ r, st + 1 = r := ⟨_, rfl⟩
      have hst := HST.out
      have hrw : IntKind.i64.wrap r = r := by rw [wrapC]; unfold wrap64; omega
      have hr0 : 1 ≤ r ∧ r ≤ 131074 := by omega
      obtain ⟨y, hy⟩ : ∃ y, ht0 * r = y := ⟨_, rfl⟩
      have hy0 : 0 ≤ y ∧ y ≤ 2048 * 131074 := by
        rw [← hy]
        have ht := HTM.out
        exact ⟨Int.mul_nonneg (by omega) (by omega), Int.mul_le_mul (by omega) (by omega) (by omega) (by omega)⟩
      have hyw : IntKind.i64.wrap y = y := by rw [wrapC]; unfold wrap64; omega
      obtain ⟨z, hz⟩ : ∃ z, 1 + y = z := ⟨_, rfl⟩
      have hzw : IntKind.i64.wrap z = z := by rw [wrapC]; unfold wrap64; omega
      have AD := hiddenC (trackAdd_any B K _ _ _ _ TA.out z (by omega) HA.out)
      have HZ : Hid (1 + ht0 * (st + 1) = z) := by rw [hr, hy, hz]; rfl
      clear hst hr0 hy0
      go_upto_region 10 with fail
      generalize W3.setCell ⟨K, 1, none⟩ (.int .i64 ha0) = W4 at *
      clear x2' x3' y1' f1
      go_wp2_with (go_at_call 76; (with_reducible refine AD.out.mono ?_); rintro e w5 ⟨rfl, h5, b5⟩; have H5 := hiddenC h5; have B5 := hiddenC b5; clear h5 b5)
      rw [← HPE.out, HZ.out]
      refine ⟨fun _ => ⟨rfl, H5.out⟩, fun e => absurd YES.out e, ?_⟩
      exact (B1.out.mono BH.out).trans (((BW3.out.trans BW4.out).trans B5.out).below H0.out.le BQ.out)
    · have q2 : (qb != (hp0 + 1)) = true := by simpa using h2
      have NO : Hid (¬ (qa = hc0 ∧ qb = hp0 + 1)) := fun e => h2 e.2
      obtain ⟨p1, hp1⟩ : ∃ x, hp0 + 1 = x := ⟨_, rfl⟩
      rw [hp1] at q2 hpw
      clear h1 h2
      go_wp2
      rw [← HPE.out]
      exact ⟨fun e => absurd e NO.out, fun _ => ⟨rfl, H1.out⟩, B1.out.mono BH.out⟩
  · have q1 : (qa != hc0) = true := by simpa using h1
    have NO : Hid (¬ (qa = hc0 ∧ qb = hp0 + 1)) := fun e => h1 e.1
    clear h1 hpw
    go_wp2
    rw [← HPE.out]
    exact ⟨fun e => absurd e NO.out, fun _ => ⟨rfl, H1.out⟩, B1.out.mono BH.out⟩
/-- How an operation is passed. -/
def PasE (B K : Nat) (w : World) (r : Int × TrkC) (e : Ending) (w' : World) : Prop := e = .returned (.int .i64 r.1) ∧ (∃ a' c', TrkA B K w' r.2 a' c') ∧ Below B w w'
set_option maxRecDepth 100000 in
set_option maxHeartbeats 4000000 in
theorem trackPass_any {p : PrgC} (B K : Nat) (w : World) (t : TrkC) (a : Option Addr) (c : Nat) (h : TrkA B K w t a c) (hB : B ≤ w.heap.size) (q : OpC) (at_ : Int) (hi : InvC p t) (hp : ∀ h ∈ t.opn, h.place ≤ 1000000) (hl : t.opn.length ≤ 1000000) :
    Calls Try.prog 49 #[.pointer (some ⟨K, 0, none⟩), .agg (opV q).toArray, .int .i64 at_] w (PasE B K w (passC q at_ t)) := by
  obtain ⟨kd, qa, qb⟩ := q
  show Calls Try.prog 49 #[.pointer (some ⟨K, 0, none⟩), .agg #[.int .u8 (kd : Int), .int .i64 qa, .int .i64 qb], .int .i64 at_] w (PasE B K w (passC ⟨kd, qa, qb⟩ at_ t))
  obtain ⟨z, hz⟩ : ∃ z : Int, (kd : Int) = z := ⟨_, rfl⟩
  rw [hz]
  have b0 := (Below.refl w.heap.size w).alloc (Nat.le_refl _) (.cells #[.int .u8 z, .int .i64 qa, .int .i64 qb] 53)
  have B0 := hiddenC (b0.mono hB)
  have H0 := hiddenC (h.below b0)
  have G0 := hiddenC (blkA_new 53 w #[.int .u8 z, .int .i64 qa, .int .i64 qb])
  have BQ : Hid (B ≤ (w.alloc (.cells #[.int .u8 z, .int .i64 qa, .int .i64 qb] 53)).heap.size) := Nat.le_trans hB b0.size
  have y0 := H0.out.box.cell (k := 0) rfl
  have z0 := G0.out.cell (k := 0) rfl
  have z1 := G0.out.cell (k := 1) rfl
  have z2 := G0.out.cell (k := 2) rfl
  simp only [List.getElem_toArray, List.getElem_cons_zero, List.getElem_cons_succ] at y0 z0 z1 z2
  have HI := hiddenC hi
  have HP := hiddenC hp
  have HL := hiddenC hl
  by_cases k1 : kd = 1
  · subst k1
    have hz1 : z = 1 := hz.symm
    subst hz1
    clear hz
    have EN := hiddenC (trackEnter_any B K _ t a c H0.out BQ.out 1 qa qb at_ hl)
    cases hh : hasC t.opn qa with
    | true =>
      have E : passC ⟨1, qa, qb⟩ at_ t = (201, t) := by unfold passC; rw [if_pos rfl, if_pos hh]
      rw [E]
      rw [hh] at EN
      clear b0 h hB hi hp hl E hh
      go_enter Try.func49, Try.ntmps49
      go_upto_region 1 with fail
      generalize w.alloc (.cells #[.int .u8 1, .int .i64 qa, .int .i64 qb] 53) = W1 at *
      go_wp2_with (go_at_call 74; (with_reducible refine EN.out.mono ?_); rintro e w' ⟨h1, -, h3⟩; obtain ⟨rfl, h4⟩ := h1 rfl; have H4 := hiddenC h4; have B4 := hiddenC h3; clear h1 h3 h4)
      go_ret
      exact ⟨rfl, ⟨_, _, H4.out⟩, B0.out.trans B4.out⟩
    | false =>
      have E : passC ⟨1, qa, qb⟩ at_ t = (0, ⟨t.opn ++ [⟨at_, qa, qb, t.steps⟩], 0⟩) := by unfold passC; rw [if_pos rfl, if_neg (by rw [hh]; decide)]
      rw [E]
      rw [hh] at EN
      clear b0 h hB hi hp hl E hh
      go_enter Try.func49, Try.ntmps49
      go_upto_region 1 with fail
      generalize w.alloc (.cells #[.int .u8 1, .int .i64 qa, .int .i64 qb] 53) = W1 at *
      go_wp2_with (go_at_call 74; (with_reducible refine EN.out.mono ?_); rintro e w' ⟨-, h1, h3⟩; obtain ⟨rfl, h4⟩ := h1 rfl; have H4 := hiddenC h4; have B4 := hiddenC h3; clear h1 h3 h4)
      go_ret
      exact ⟨rfl, H4.out, B0.out.trans B4.out⟩
  by_cases k2 : kd = 2
  · subst k2
    have hz1 : z = 2 := hz.symm
    subst hz1
    clear hz
    obtain ⟨opn, st⟩ := t
    simp only at y0 hi hp hl
    rcases List.eq_nil_or_concat opn with e1 | ⟨l, hd, e1⟩
    · subst e1
      have E : passC ⟨2, qa, qb⟩ at_ ⟨[], st⟩ = (201, ⟨[], st⟩) := rfl
      rw [E]
      have LE := hiddenC (trackLeave_nil B K _ ⟨[], st⟩ a c H0.out BQ.out 2 qa qb rfl)
      clear b0 h hB hi hp hl E k1
      go_enter Try.func49, Try.ntmps49
      go_upto_region 1 with fail
      generalize w.alloc (.cells #[.int .u8 2, .int .i64 qa, .int .i64 qb] 53) = W1 at *
      go_wp2_with (go_at_call 75; (with_reducible refine LE.out.mono ?_); rintro e w' ⟨rfl, h4, h3⟩; have H4 := hiddenC h4; have B4 := hiddenC h3; clear h3 h4)
      go_ret
      exact ⟨rfl, ⟨_, _, H4.out⟩, B0.out.trans B4.out⟩
    · rw [List.concat_eq_append] at e1
      subst e1
      have hm : hd ∈ l ++ [hd] := by simp
      have i1 := HI.out.heads hd hm
      have i2 := HP.out hd hm
      have i3 := HI.out.steps
      have ll : l.length ≤ 1000000 := by have q := HL.out; simp only [List.length_append, List.length_singleton] at q; omega
      have LE := hiddenC (trackLeave_snoc B K _ l hd st a c H0.out BQ.out 2 qa qb ll i3 i1.1 i1.2.1 ⟨i1.2.2.2, i2⟩)
      by_cases hh : qa = hd.counter ∧ qb = hd.place + 1
      · have E : passC ⟨2, qa, qb⟩ at_ ⟨l ++ [hd], st⟩ = (0, ⟨l, addC hd.ahead (1 + hd.times * (st + 1))⟩) := by
          unfold passC
          rw [if_neg (show ¬ (2 : Nat) = 1 by decide), if_pos rfl]
          simp only [List.getLast?_concat, List.dropLast_concat]
          rw [if_pos hh]
        rw [E]
        have HH := hiddenC hh
        clear b0 h hB hi hp hl E k1 hh i1 i2 i3 ll hm
        go_enter Try.func49, Try.ntmps49
        go_upto_region 1 with fail
        generalize w.alloc (.cells #[.int .u8 2, .int .i64 qa, .int .i64 qb] 53) = W1 at *
        go_wp2_with (go_at_call 75; (with_reducible refine LE.out.mono ?_); rintro e w' ⟨h1, -, h3⟩; obtain ⟨rfl, h4⟩ := h1 HH.out; have H4 := hiddenC h4; have B4 := hiddenC h3; clear h1 h3 h4)
        go_ret
        exact ⟨rfl, ⟨_, _, H4.out⟩, B0.out.trans B4.out⟩
      · have E : passC ⟨2, qa, qb⟩ at_ ⟨l ++ [hd], st⟩ = (201, ⟨l ++ [hd], st⟩) := by
          unfold passC
          rw [if_neg (show ¬ (2 : Nat) = 1 by decide), if_pos rfl]
          simp only [List.getLast?_concat]
          rw [if_neg hh]
        rw [E]
        have HH := hiddenC hh
        clear b0 h hB hi hp hl E k1 hh i1 i2 i3 ll hm
        go_enter Try.func49, Try.ntmps49
        go_upto_region 1 with fail
        generalize w.alloc (.cells #[.int .u8 2, .int .i64 qa, .int .i64 qb] 53) = W1 at *
        go_wp2_with (go_at_call 75; (with_reducible refine LE.out.mono ?_); rintro e w' ⟨-, h1, h3⟩; obtain ⟨rfl, h4⟩ := h1 HH.out; have H4 := hiddenC h4; have B4 := hiddenC h3; clear h1 h3 h4)
        go_ret
        exact ⟨rfl, ⟨_, _, H4.out⟩, B0.out.trans B4.out⟩
  have AD : Hid (∀ U, TrkA B K U t a c → Calls Try.prog 76 #[.pointer (some ⟨K, 0, none⟩), .int .i64 1] U fun e w' => e = .returned (.tuple #[]) ∧ TrkA B K w' ⟨t.opn, addC t.steps 1⟩ a c ∧ But K U w') := fun U hU => trackAdd_any B K U t a c hU 1 (by decide) HI.out.steps
  have AD1 := hiddenC (AD.out _ H0.out)
  have LE := hiddenC H0.out.le
  by_cases k0 : kd = 0
  · subst k0
    have hz1 : z = 0 := hz.symm
    subst hz1
    clear hz
    obtain ⟨m, hm⟩ : ∃ m, t.opn.length = m := ⟨_, rfl⟩
    rw [hm] at y0
    by_cases hn : t.opn = []
    · have e0 : m = 0 := by rw [← hm, hn]; rfl
      have E : passC ⟨0, qa, qb⟩ at_ t = (0, ⟨t.opn, addC t.steps 1⟩) := by
        unfold passC
        rw [if_neg (show ¬ (0 : Nat) = 1 by decide), if_neg (show ¬ (0 : Nat) = 2 by decide), if_neg (fun e => e.2 hn)]
      rw [E]
      subst e0
      clear b0 h hB hi hp hl E k1 k2 hn hm AD
      go_enter Try.func49, Try.ntmps49
      go_upto_region 1 with fail
      generalize w.alloc (.cells #[.int .u8 0, .int .i64 qa, .int .i64 qb] 53) = W1 at *
      go_wp2_with (go_at_call 76; (with_reducible refine AD1.out.mono ?_); rintro e w' ⟨rfl, h4, h3⟩; have H4 := hiddenC h4; have B4 := hiddenC h3; clear h3 h4)
      go_ret
      exact ⟨rfl, ⟨_, _, H4.out⟩, B0.out.trans (B4.out.below LE.out BQ.out)⟩
    · have hm0 : (m : Int) > 0 := by
        have := List.length_pos_iff.2 hn
        omega
      have E : passC ⟨0, qa, qb⟩ at_ t = (201, t) := by
        unfold passC
        rw [if_neg (show ¬ (0 : Nat) = 1 by decide), if_neg (show ¬ (0 : Nat) = 2 by decide), if_pos ⟨rfl, hn⟩]
      rw [E]
      clear b0 h hB hi hp hl E k1 k2 hn hm AD AD1
      go_enter Try.func49, Try.ntmps49
      go_upto_region 1 with fail
      generalize w.alloc (.cells #[.int .u8 0, .int .i64 qa, .int .i64 qb] 53) = W1 at *
      go_wp2
      go_ret
      exact ⟨rfl, ⟨_, _, H0.out⟩, B0.out⟩
  · have E : passC ⟨kd, qa, qb⟩ at_ t = (0, ⟨t.opn, addC t.steps 1⟩) := by
      unfold passC
      rw [if_neg k1, if_neg k2, if_neg (fun e => k0 e.1)]
    rw [E]
    have x0 : (z == 0) = false := by simp; omega
    have x1 : (z == 1) = false := by simp; omega
    have x2 : (z == 2) = false := by simp; omega
    clear b0 h hB hi hp hl E k1 k2 k0 AD hz
    go_enter Try.func49, Try.ntmps49
    go_upto_region 1 with fail
    generalize w.alloc (.cells #[.int .u8 z, .int .i64 qa, .int .i64 qb] 53) = W1 at *
    go_wp2_with (go_at_call 76; (with_reducible refine AD1.out.mono ?_); rintro e w' ⟨rfl, h4, h3⟩; have H4 := hiddenC h4; have B4 := hiddenC h3; clear h3 h4)
    go_ret
    exact ⟨rfl, ⟨_, _, H4.out⟩, B0.out.trans (B4.out.below LE.out BQ.out)⟩
theorem along_stop {p : PrgC} {k : Nat} (hk : k < p.ops.length) (h : (runC p (k + 1)).1 ≠ 0) : alongC p = (0, (runC p (k + 1)).1) := by
  have e := run_stop h (p.ops.length - (k + 1))
  rw [show k + 1 + (p.ops.length - (k + 1)) = p.ops.length by omega] at e
  unfold alongC
  rw [e, if_neg h]
theorem run_bad {p : PrgC} {k : Nat} (h0 : (runC p k).1 = 0) (hm : mayC p (nthO p.ops k) k = false) : (runC p (k + 1)).1 = 200 := by
  rw [runC, if_pos h0, if_neg (by rw [hm]; decide)]
theorem run_good {p : PrgC} {k : Nat} (h0 : (runC p k).1 = 0) (hm : mayC p (nthO p.ops k) k = true) : runC p (k + 1) = passC (nthO p.ops k) k (runC p k).2 := by
  rw [runC, if_pos h0, if_pos hm]
theorem op_cells {w : World} {ab off : Nat} {p : PrgC} {k : Nat} (hk : k < p.ops.length) (hc : ∀ k x, p.ops[k]? = some x → ∀ j u, (opV x)[j]? = some u → w.cell? ⟨ab, off + k * 3 + j, none⟩ = some u) :
    w.cell? ⟨ab, off + k * 3, none⟩ = some (.int .u8 ((nthO p.ops k).kind : Int)) ∧ w.cell? ⟨ab, off + k * 3 + 1, none⟩ = some (.int .i64 (nthO p.ops k).a) ∧ w.cell? ⟨ab, off + k * 3 + 2, none⟩ = some (.int .i64 (nthO p.ops k).b) := by
  have hg : p.ops[k]? = some (nthO p.ops k) := by unfold nthO; rw [List.getD_eq_getElem?_getD, List.getElem?_eq_getElem hk]; rfl
  exact ⟨hc k _ hg 0 _ rfl, hc k _ hg 1 _ rfl, hc k _ hg 2 _ rfl⟩
set_option maxRecDepth 100000 in
set_option maxHeartbeats 8000000 in
theorem along_any (p : PrgC) (aP : Option Addr) (cP : Nat) (aL : Option Addr) (cL : Nat) (aO : Option Addr) (cO : Nat) (W : World) (hO : AtV opV 3 W aO p.ops) (hn : p.ops.length ≤ 131072) :
    Calls Try.prog 30 #[prgV p aP cP aL cL aO cO] W fun e w' => e = .returned (.tuple #[.int .i64 (alongC p).1, .int .i64 (alongC p).2]) ∧ Below W.heap.size W w' := by
  obtain ⟨PE, hPE⟩ : ∃ Q : Ending → World → Prop, (fun e w' => e = .returned (.tuple #[.int .i64 (alongC p).1, .int .i64 (alongC p).2]) ∧ Below W.heap.size W w') = Q := ⟨_, rfl⟩
  rw [hPE]
  have HPE := hiddenC hPE
  have LT := hiddenC (fun (q : OpC) (U : World) => letsC_any p q aP cP aL cL aO cO U)
  unfold prgV at LT ⊢
  have HRP := hiddenC (run_place p)
  have HRI := hiddenC (run_inv p)
  obtain ⟨n, hln⟩ : ∃ n, p.ops.length = n := ⟨_, rfl⟩
  have HLN := hiddenC hln
  generalize p.parts.length = nP at *
  generalize p.lines.length = nL at *
  rw [hln] at hn LT ⊢
  have b0 := (Below.refl W.heap.size W).alloc (Nat.le_refl _) (.cells #[.int .i64 p.mem, .int .i64 p.cnt, .int .i64 p.ins, .int .i64 p.outs, .slice aP nP cP, .slice aL nL cL, .slice aO n cO] 26)
  have g0 := blkA_new 26 W #[.int .i64 p.mem, .int .i64 p.cnt, .int .i64 p.ins, .int .i64 p.outs, .slice aP nP cP, .slice aL nL cL, .slice aO n cO]
  have hs : (W.alloc (.cells #[.int .i64 p.mem, .int .i64 p.cnt, .int .i64 p.ins, .int .i64 p.outs, .slice aP nP cP, .slice aL nL cL, .slice aO n cO] 26)).heap.size = W.heap.size + 1 := World.size_alloc ..
  have B0 := hiddenC b0
  have G0 := hiddenC g0
  have SZ := hiddenC hs
  have HO := hiddenC hO
  clear hPE hO hln b0 g0 hs
  go_enter Try.func30, Try.ntmps30
  go_upto_region 1 with fail
  generalize W.alloc (.cells #[.int .i64 p.mem, .int .i64 p.cnt, .int .i64 p.ins, .int .i64 p.outs, .slice aP nP cP, .slice aL nL cL, .slice aO n cO] 26) = W1 at *
  have b1 : Hid (Below W1.heap.size W1 (W1.alloc (.cells #[.slice none 0 0, .int .i64 0] 94))) := (Below.refl _ _).alloc (Nat.le_refl _) _
  have T0 : Hid (TrkA W1.heap.size W1.heap.size (W1.alloc (.cells #[.slice none 0 0, .int .i64 0] 94)) ⟨[], 0⟩ none 0) := ⟨blkA_new _ _ _, CapV.nil _ _, (fun x hx => by cases hx), Nat.le_refl _⟩
  have G1 := hiddenC (G0.out.below b1.out)
  go_upto_region 2 with fail
  generalize W1.alloc (.cells #[.slice none 0 0, .int .i64 0] 94) = W2 at *
  obtain ⟨K, hK⟩ : ∃ K, W1.heap.size = K := ⟨_, rfl⟩
  obtain ⟨pb, hpb⟩ : ∃ b, W.heap.size = b := ⟨_, rfl⟩
  have KP : Hid (pb < K) := by have := SZ.out; show pb < K; omega
  have WB : Hid (Below W.heap.size W W2) := B0.out.trans (b1.out.mono (by have := SZ.out; omega))
  have HPB := hiddenC hpb
  rw [hK] at b1 T0 SZ ⊢
  rw [hpb] at G1 G0 ⊢
  clear hK hpb G0 B0
  have z6 := G1.out.cell (k := 6) rfl
  simp only [List.getElem_toArray, List.getElem_cons_zero, List.getElem_cons_succ] at z6
  obtain ⟨ls, hls⟩ : ∃ x, (n : Int) - 1 = x := ⟨_, rfl⟩
  have hlw : IntKind.i64.wrap ls = ls := by rw [wrapC]; unfold wrap64; omega
  have HLS := hiddenC hls
  go_upto_region 3 with fail
  clear hls hlw
  go_wp2
  clear z6
  go_loopg [16] n (fun gk u wr => ∃ k : Nat, k ≤ n ∧ gk = n - k ∧ u = .int .i64 (k : Int) ∧ (runC p k).1 = 0 ∧ (∃ a c, TrkA K K wr (runC p k).2 a c) ∧ Below K W2 wr)
  case atStart => exact ⟨0, Nat.zero_le _, rfl, rfl, rfl, ⟨_, _, T0.out⟩, Below.refl _ _⟩
  case round =>
    obtain ⟨k, hk, rfl, rfl, hr, ⟨a, c, hT⟩, hB⟩ := hrel
    have HR := hiddenC hr
    have HT := hiddenC hT
    have HB := hiddenC hB
    have KQ : Hid (K ≤ wr.heap.size) := Nat.le_of_lt hT.box.lt
    have WR : Hid (Below W.heap.size W wr) := WB.out.trans (HB.out.mono (by have := KP.out; have := HPB.out; omega))
    have GR := hiddenC (G1.out.keep (HB.out.block pb KP.out))
    have z0 := GR.out.cell (k := 0) rfl
    have z1 := GR.out.cell (k := 1) rfl
    have z2 := GR.out.cell (k := 2) rfl
    have z3 := GR.out.cell (k := 3) rfl
    have z4 := GR.out.cell (k := 4) rfl
    have z5 := GR.out.cell (k := 5) rfl
    have z6 := GR.out.cell (k := 6) rfl
    simp only [List.getElem_toArray, List.getElem_cons_zero, List.getElem_cons_succ] at z0 z1 z2 z3 z4 z5 z6
    clear hr hT hB
    by_cases hlt : k < n
    · have hki : (k : Int) < (n : Int) := by omega
      have hkL : k < p.ops.length := by rw [HLN.out]; exact hlt
      rcases HO.out.below WR.out with e1 | ⟨ab, off, rfl, hc⟩
      · rw [e1] at hkL; exact absurd hkL (Nat.not_lt_zero _)
      obtain ⟨c0, c1, c2⟩ := op_cells hkL hc
      have STOP := hiddenC (fun e => along_stop (p := p) hkL e)
      have BAD := hiddenC (run_bad HR.out)
      have GOOD := hiddenC (run_good HR.out)
      have MAY : Hid (mayC p (nthO p.ops k) k = (letsC p (nthO p.ops k) && (!decide ((nthO p.ops k).kind = 0) || decide (k + 1 = n)))) := by
        show _ = _; unfold mayC; rw [HLN.out]
      have LQ := hiddenC (LT.out (nthO p.ops k))
      have PQ : Hid (∀ U, TrkA K K U (runC p k).2 a c → K ≤ U.heap.size → Calls Try.prog 49 #[.pointer (some ⟨K, 0, none⟩), .agg (opV (nthO p.ops k)).toArray, .int .i64 (k : Int)] U (PasE K K U (passC (nthO p.ops k) k (runC p k).2))) := fun U hU hKU => trackPass_any (p := p) K K U _ a c hU hKU _ _ (HRI.out k) (fun h hh => by have := (HRP.out k).1 h hh; omega) (by have := (HRP.out k).2; omega)
      clear hc hkL
      obtain ⟨q, hq⟩ : ∃ q, nthO p.ops k = q := ⟨_, rfl⟩
      rw [hq] at c0 c1 c2 BAD GOOD MAY LQ PQ
      obtain ⟨kd, qa, qb⟩ := q
      obtain ⟨z, hz⟩ : ∃ z : Int, (kd : Int) = z := ⟨_, rfl⟩
      have HZ := hiddenC hz
      have LQ2 : Hid (∀ U, Calls Try.prog 48 #[.agg #[.int .i64 p.mem, .int .i64 p.cnt, .int .i64 p.ins, .int .i64 p.outs, .slice aP nP cP, .slice aL nL cL, .slice (some ⟨ab, off, none⟩) n cO], .agg #[.int .u8 z, .int .i64 qa, .int .i64 qb]] U fun e w' => e = .returned (.bool (letsC p ⟨kd, qa, qb⟩)) ∧ Below U.heap.size U w') := fun U => by rw [← hz]; exact LQ.out U
      have PQ2 : Hid (∀ U, TrkA K K U (runC p k).2 a c → K ≤ U.heap.size → Calls Try.prog 49 #[.pointer (some ⟨K, 0, none⟩), .agg #[.int .u8 z, .int .i64 qa, .int .i64 qb], .int .i64 (k : Int)] U (PasE K K U (passC ⟨kd, qa, qb⟩ k (runC p k).2))) := fun U hU hKU => by rw [← hz]; exact PQ.out U hU hKU
      simp only at c0 c1 c2
      rw [hz] at c0
      clear LQ PQ hq hz
      have b2 : Hid (Below wr.heap.size wr (wr.alloc (.cells #[.int .u8 z, .int .i64 qa, .int .i64 qb] 53))) := (Below.refl _ _).alloc (Nat.le_refl _) _
      have Gx := hiddenC (blkA_new 53 wr #[.int .u8 z, .int .i64 qa, .int .i64 qb])
      have HT2 := hiddenC (HT.out.below b2.out)
      have GR2 := hiddenC (GR.out.below b2.out)
      have HB2 := hiddenC (HB.out.trans (b2.out.mono KQ.out))
      clear z6
      go_upto_region 6 with fail
      generalize wr.alloc (.cells #[.int .u8 z, .int .i64 qa, .int .i64 qb] 53) = W3 at *
      clear z0 z1 z2 z3 z4 z5 c0 c1 c2 b2
      have z0 := GR2.out.cell (k := 0) rfl
      have z1 := GR2.out.cell (k := 1) rfl
      have z2 := GR2.out.cell (k := 2) rfl
      have z3 := GR2.out.cell (k := 3) rfl
      have z4 := GR2.out.cell (k := 4) rfl
      have z5 := GR2.out.cell (k := 5) rfl
      have z6 := GR2.out.cell (k := 6) rfl
      have x0 := Gx.out.cell (k := 0) rfl
      have x1 := Gx.out.cell (k := 1) rfl
      have x2 := Gx.out.cell (k := 2) rfl
      simp only [List.getElem_toArray, List.getElem_cons_zero, List.getElem_cons_succ] at z0 z1 z2 z3 z4 z5 z6 x0 x1 x2
      have K3 : Hid (K ≤ W3.heap.size) := Nat.le_trans (Nat.le_of_lt HT2.out.box.lt) (Nat.le_refl _)
      have RET : Hid (∀ e w', (runC p (k + 1)).1 ≠ 0 → e = .returned (.tuple #[.int .i64 0, .int .i64 (runC p (k + 1)).1]) → Below K W3 w' → PE e w') := fun e w' h1 h2 h3 => by
        rw [← HPE.out]
        have := STOP.out h1
        rw [this]
        exact ⟨h2, WB.out.trans ((HB2.out.trans h3).mono (by have := KP.out; have := HPB.out; omega))⟩
      clear STOP
      cases hl : letsC p ⟨kd, qa, qb⟩ with
      | false =>
        have E := BAD.out (by rw [MAY.out, hl]; rfl)
        rw [E] at RET
        rw [hl] at LQ2
        clear BAD GOOD MAY PQ2 E hl
        go_wp2_with (go_at_call 48; (with_reducible refine (LQ2.out _).mono ?_); rintro e w4 ⟨rfl, b4⟩; have B4 := hiddenC b4; clear b4)
        exact RET.out _ _ (by decide) rfl (B4.out.mono K3.out)
      | true =>
        rw [hl] at LQ2
        rw [hl, Bool.true_and] at MAY
        have go_on : Hid (∀ U, TrkA K K U (runC p k).2 a c → Below K W3 U → mayC p ⟨kd, qa, qb⟩ k = true → Calls Try.prog 49 #[.pointer (some ⟨K, 0, none⟩), .agg #[.int .u8 z, .int .i64 qa, .int .i64 qb], .int .i64 (k : Int)] U fun e w' => e = .returned (.int .i64 (runC p (k + 1)).1) ∧ (∃ a c, TrkA K K w' (runC p (k + 1)).2 a c) ∧ Below K W3 w') := fun U h1 h2 h3 => by
          rw [GOOD.out h3]
          exact (PQ2.out U h1 (Nat.le_of_lt h1.box.lt)).mono fun e w' hh => ⟨hh.1, hh.2.1, h2.trans hh.2.2⟩
        clear PQ2 GOOD
        have HNX : Hid (∀ w', (runC p (k + 1)).1 = 0 → (∃ a c, TrkA K K w' (runC p (k + 1)).2 a c) → Below K W3 w' → ∃ k' : Nat, k' ≤ n ∧ n - (k + 1) = n - k' ∧ Value.int .i64 ((k : Int) + 1) = .int .i64 (k' : Int) ∧ (runC p k').1 = 0 ∧ (∃ a c, TrkA K K w' (runC p k').2 a c) ∧ Below K W2 w') := fun w' h1 h2 h3 => ⟨k + 1, by omega, rfl, by push_cast; rfl, h1, h2, HB2.out.trans h3⟩
        by_cases hk0 : kd = 0
        · have q0 : (z == 0) = true := by have := HZ.out; simp; omega
          by_cases hkn : k + 1 = n
          · have q1 : ((k : Int) != ls) = false := by have := HLS.out; simp; omega
            have MT : Hid (mayC p ⟨kd, qa, qb⟩ k = true) := by show _ = _; rw [MAY.out, decide_eq_true hkn, Bool.or_true]
            obtain ⟨r, hr⟩ : ∃ r, (runC p (k + 1)).1 = r := ⟨_, rfl⟩
            have HRR := hiddenC hr
            rw [hr] at go_on RET HNX
            clear BAD MAY hl hk0 hkn hr
            go_upto_region 8 with (go_at_call 48; (with_reducible refine (LQ2.out _).mono ?_); rintro e w4 ⟨rfl, b4⟩; have B4 := hiddenC b4; have HT4 := hiddenC (HT2.out.below b4); have x0' := cellC_later b4 x0; have x1' := cellC_later b4 x1; have x2' := cellC_later b4 x2; clear b4)
            have P4 := hiddenC (go_on.out _ HT4.out (B4.out.mono K3.out) MT.out)
            clear x0 x1 x2 z0 z1 z2 z3 z4 z5 z6 go_on
            by_cases hr0 : r = 0
            · subst hr0
              go_wp2_with (go_at_call 49; (with_reducible refine P4.out.mono ?_); rintro e w5 ⟨rfl, t5, b5⟩; have T5 := hiddenC t5; have B5 := hiddenC b5; clear t5 b5)
              go_roundg (n - (k + 1))
              case measure => omega
              case rel =>
                obtain ⟨k', g1, g2, g3, g4, g5, g6⟩ := HNX.out _ trivial T5.out B5.out
                exact ⟨k', g1, g2, by rw [← g3], g4, g5, g6⟩
            · go_wp2_with (go_at_call 49; (with_reducible refine P4.out.mono ?_); rintro e w5 ⟨rfl, t5, b5⟩; have T5 := hiddenC t5; have B5 := hiddenC b5; clear t5 b5)
              exact RET.out _ _ hr0 rfl B5.out
          · have q1 : ((k : Int) != ls) = true := by have := HLS.out; simp; omega
            have E := BAD.out (by rw [MAY.out, decide_eq_true hk0, decide_eq_false hkn]; rfl)
            rw [E] at RET
            clear BAD MAY hl hk0 hkn E go_on HNX
            go_wp2_with (go_at_call 48; (with_reducible refine (LQ2.out _).mono ?_); rintro e w4 ⟨rfl, b4⟩; have B4 := hiddenC b4; have x0' := cellC_later b4 x0; clear b4)
            exact RET.out _ _ (by decide) rfl (B4.out.mono K3.out)
        · have q0 : (z == 0) = false := by have := HZ.out; simp; omega
          have MT : Hid (mayC p ⟨kd, qa, qb⟩ k = true) := by show _ = _; rw [MAY.out, decide_eq_false hk0]; rfl
          obtain ⟨r, hr⟩ : ∃ r, (runC p (k + 1)).1 = r := ⟨_, rfl⟩
          have HRR := hiddenC hr
          rw [hr] at go_on RET HNX
          clear BAD MAY hl hk0 hr
          go_upto_region 8 with (go_at_call 48; (with_reducible refine (LQ2.out _).mono ?_); rintro e w4 ⟨rfl, b4⟩; have B4 := hiddenC b4; have HT4 := hiddenC (HT2.out.below b4); have x0' := cellC_later b4 x0; have x1' := cellC_later b4 x1; have x2' := cellC_later b4 x2; clear b4)
          have P4 := hiddenC (go_on.out _ HT4.out (B4.out.mono K3.out) MT.out)
          clear x0 x1 x2 z0 z1 z2 z3 z4 z5 z6 go_on
          by_cases hr0 : r = 0
          · subst hr0
            go_wp2_with (go_at_call 49; (with_reducible refine P4.out.mono ?_); rintro e w5 ⟨rfl, t5, b5⟩; have T5 := hiddenC t5; have B5 := hiddenC b5; clear t5 b5)
            go_roundg (n - (k + 1))
            case measure => omega
            case rel =>
              obtain ⟨k', g1, g2, g3, g4, g5, g6⟩ := HNX.out _ trivial T5.out B5.out
              exact ⟨k', g1, g2, by rw [← g3], g4, g5, g6⟩
          · go_wp2_with (go_at_call 49; (with_reducible refine P4.out.mono ?_); rintro e w5 ⟨rfl, t5, b5⟩; have T5 := hiddenC t5; have B5 := hiddenC b5; clear t5 b5)
            exact RET.out _ _ hr0 rfl B5.out
    · have hki : ¬ (k : Int) < (n : Int) := by omega
      have ek : k = n := by omega
      have KW : Hid (Below W.heap.size W wr) := WR.out
      have R0 : Hid ((runC p p.ops.length).1 = 0) := by show _ = _; rw [HLN.out, ← ek]; exact HR.out
      have y1 := HT.out.box.cell (k := 1) rfl
      simp only [List.getElem_toArray, List.getElem_cons_zero, List.getElem_cons_succ] at y1
      rw [ek] at y1
      obtain ⟨st, hst⟩ : ∃ x, (runC p n).2.steps = x := ⟨_, rfl⟩
      rw [hst] at y1
      have EA : Hid (alongC p = if lastC p = true then (if st = 131073 then (0, 5) else (st, 0)) else (0, 200)) := by
        show _ = _
        unfold alongC
        rw [if_pos R0.out, HLN.out, hst]
      clear hst LT HRP HRI WB HR HT HB KQ ek
      rcases Nat.eq_zero_or_pos n with h0 | hpos
      · have hl0 : ls < 0 := by have := HLS.out; omega
        have EL : lastC p = false := by unfold lastC; rw [HLN.out, h0]; rfl
        rw [EL] at EA
        clear h0 EL z0 z1 z2 z3 z4 z5 y1
        go_wp2
        rw [← HPE.out, EA.out]
        exact ⟨rfl, KW.out⟩
      · obtain ⟨m, hm⟩ : ∃ m, n = m + 1 := ⟨n - 1, by omega⟩
        have hlm : ls = (m : Int) := by have := HLS.out; omega
        subst hlm
        have hmn : (m : Int) < (n : Int) := by omega
        have hmN : m < n := by omega
        have hm0 : ¬ (m : Int) < 0 := by omega
        have hmL : m < p.ops.length := by rw [HLN.out]; exact hmN
        rcases HO.out.below WR.out with e1 | ⟨ab, off, rfl, hc⟩
        · rw [e1] at hmL; exact absurd hmL (Nat.not_lt_zero _)
        obtain ⟨c0, -, -⟩ := op_cells hmL hc
        have EL : lastC p = decide ((nthO p.ops m).kind = 0) := by
          unfold lastC
          rw [HLN.out, decide_eq_true hpos, Bool.true_and, show n - 1 = m by omega]
        rw [EL] at EA
        generalize nthO p.ops m = q at *
        obtain ⟨kd, qa, qb⟩ := q
        simp only at c0 EA
        obtain ⟨z, hz⟩ : ∃ z : Int, (kd : Int) = z := ⟨_, rfl⟩
        rw [hz] at c0
        clear hc hmL EL hm hpos z0 z1 z2 z3 z4 z5
        by_cases hk0 : kd = 0
        · have q0 : (z != 0) = false := by simp; omega
          rw [decide_eq_true hk0, if_pos rfl] at EA
          by_cases hs : st = 131073
          · have q1 : (st == 131073) = true := by simpa using hs
            rw [if_pos hs] at EA
            clear hk0 hz hs
            go_wp2
            rw [← HPE.out, EA.out]
            exact ⟨rfl, KW.out⟩
          · have q1 : (st == 131073) = false := by simpa using hs
            rw [if_neg hs] at EA
            clear hk0 hz hs
            go_wp2
            rw [← HPE.out, EA.out]
            exact ⟨rfl, KW.out⟩
        · have q0 : (z != 0) = true := by simp; omega
          rw [decide_eq_false hk0, if_neg (by decide)] at EA
          clear hk0 hz
          go_wp2
          rw [← HPE.out, EA.out]
          exact ⟨rfl, KW.out⟩
/-- What is true of any program that can lie in memory. -/
structure FitP (p : PrgC) : Prop where
  fit : FitC p
  base : ∀ q ∈ p.lines, q.base ≤ 9223372036854775807
theorem PrgL.lenP {w p aP aL aO LP LL} (h : PrgL w p aP aL aO LP LL) : LP.length = p.parts.length := by rw [← h.pe, List.length_map]
theorem PrgL.lenL {w p aP aL aO LP LL} (h : PrgL w p aP aL aO LP LL) : LL.length = p.lines.length := by rw [← h.le, List.length_map]
theorem lim_lens {p : PrgC} (h : limC p = 0) : p.parts.length ≤ 32 ∧ p.lines.length ≤ 96 ∧ p.ops.length ≤ 131072 := (lim_zero h).2.2.2.2
set_option maxRecDepth 100000 in
set_option maxHeartbeats 8000000 in
theorem steps_any (p : PrgC) (aP : Option Addr) (cP : Nat) (aL : Option Addr) (cL : Nat) (aO : Option Addr) (cO : Nat) (LP : List (PrtC × (Option Addr × Nat))) (LL : List (LinC × (Option Addr × Nat))) (W : World) (hL : PrgL W p aP aL aO LP LL) (hF : FitP p) :
    Calls Try.prog 13 #[prgV p aP cP aL cL aO cO] W fun e w' => e = .returned (.tuple #[.int .i64 (stepC codeS p).1, .int .i64 (stepC codeS p).2]) ∧ Below W.heap.size W w' := by
  obtain ⟨PE, hPE⟩ : ∃ Q : Ending → World → Prop, (fun e w' => e = .returned (.tuple #[.int .i64 (stepC codeS p).1, .int .i64 (stepC codeS p).2]) ∧ Below W.heap.size W w') = Q := ⟨_, rfl⟩
  rw [hPE]
  have HPE := hiddenC hPE
  have HL := hiddenC hL
  have HF := hiddenC hF
  have ER : Hid (stepC codeS p = if limC p = 0 then (if partsC codeS p.parts = 0 then (if linesC p.mem p.lines = 0 then alongC p else (0, linesC p.mem p.lines)) else (0, partsC codeS p.parts)) else (0, limC p)) := rfl
  have LC := hiddenC (fun U => limitsC_any p aP cP aL cL aO cO U)
  have PC : Hid (limC p = 0 → ∀ U, Below W.heap.size W U → Calls Try.prog 28 #[.slice aP p.parts.length cP] U fun e w' => e = .returned (.int .i64 (partsC codeS p.parts)) ∧ Below U.heap.size U w') := fun h0 U hb => by
    have q := partsC_any aP p.parts.length cP LP U (hL.pa.below hb) (fun x hx => (hL.pp x hx).below hb) (fun x hx => (hF.fit.parts x.1 (by rw [← hL.pe]; exact List.mem_map_of_mem hx)).1) hL.lenP (by have := lim_lens h0; omega)
    rw [hL.pe] at q
    exact q
  have NC : Hid (limC p = 0 → ∀ U, Below W.heap.size W U → Calls Try.prog 29 #[.slice aL p.lines.length cL, .int .i64 p.mem] U fun e w' => e = .returned (.int .i64 (linesC p.mem p.lines)) ∧ Below U.heap.size U w') := fun h0 U hb => by
    have q := linesC_any aL p.lines.length cL p.mem LL U (hL.la.below hb) (fun x hx => hF.base x.1 (by rw [← hL.le]; exact List.mem_map_of_mem hx)) (lim_zero h0).1 hL.lenL (by have := lim_lens h0; omega)
    rw [hL.le] at q
    exact q
  have AC : Hid (limC p = 0 → ∀ U, Below W.heap.size W U → Calls Try.prog 30 #[prgV p aP cP aL cL aO cO] U fun e w' => e = .returned (.tuple #[.int .i64 (alongC p).1, .int .i64 (alongC p).2]) ∧ Below U.heap.size U w') := fun h0 U hb => along_any p aP cP aL cL aO cO U (hL.oa.below hb) (lim_lens h0).2.2
  unfold prgV at LC AC ⊢
  generalize p.parts.length = nP at *
  generalize p.lines.length = nL at *
  generalize p.ops.length = nO at *
  have b0 := (Below.refl W.heap.size W).alloc (Nat.le_refl _) (.cells #[.int .i64 p.mem, .int .i64 p.cnt, .int .i64 p.ins, .int .i64 p.outs, .slice aP nP cP, .slice aL nL cL, .slice aO nO cO] 26)
  have B0 := hiddenC b0
  have G0 := hiddenC (blkA_new 26 W #[.int .i64 p.mem, .int .i64 p.cnt, .int .i64 p.ins, .int .i64 p.outs, .slice aP nP cP, .slice aL nL cL, .slice aO nO cO])
  have z0 := G0.out.cell (k := 0) rfl
  have z1 := G0.out.cell (k := 1) rfl
  have z2 := G0.out.cell (k := 2) rfl
  have z3 := G0.out.cell (k := 3) rfl
  have z4 := G0.out.cell (k := 4) rfl
  have z5 := G0.out.cell (k := 5) rfl
  have z6 := G0.out.cell (k := 6) rfl
  simp only [List.getElem_toArray, List.getElem_cons_zero, List.getElem_cons_succ] at z0 z1 z2 z3 z4 z5 z6
  clear hPE hL hF b0
  go_enter Try.func13, Try.ntmps13
  go_upto_region 1 with fail
  generalize W.alloc (.cells #[.int .i64 p.mem, .int .i64 p.cnt, .int .i64 p.ins, .int .i64 p.outs, .slice aP nP cP, .slice aL nL cL, .slice aO nO cO] 26) = W1 at *
  by_cases h1 : limC p = 0
  · have PC1 := hiddenC (PC.out h1)
    have NC1 := hiddenC (NC.out h1)
    have AC1 := hiddenC (AC.out h1)
    have ER1 : Hid (stepC codeS p = if partsC codeS p.parts = 0 then (if linesC p.mem p.lines = 0 then alongC p else (0, linesC p.mem p.lines)) else (0, partsC codeS p.parts)) := by
      have q := ER.out
      rw [if_pos h1] at q
      exact q
    rw [h1] at LC
    clear PC NC AC ER h1
    generalize partsC codeS p.parts = r1 at *
    generalize linesC p.mem p.lines = r2 at *
    go_upto_region 4 with (go_at_call 27; (with_reducible refine (LC.out _).mono ?_); rintro e w2 ⟨rfl, b2⟩; have B2 := hiddenC (B0.out.trans (b2.mono B0.out.size)); have G2 := hiddenC (G0.out.below b2); clear b2)
    clear z0 z1 z2 z3 z4 z5 z6
    have z4 := G2.out.cell (k := 4) rfl
    simp only [List.getElem_toArray, List.getElem_cons_zero, List.getElem_cons_succ] at z4
    by_cases h2 : r1 = 0
    · subst h2
      have ER2 : Hid (stepC codeS p = if r2 = 0 then alongC p else (0, r2)) := by
        have q := ER1.out
        rw [if_pos rfl] at q
        exact q
      clear ER1
      go_upto_region 7 with (go_at_call 28; (with_reducible refine (PC1.out _ B2.out).mono ?_); rintro e w3 ⟨rfl, b3⟩; have B3 := hiddenC (B2.out.trans (b3.mono B2.out.size)); have G3 := hiddenC (G2.out.below b3); clear b3)
      clear z4
      have z0 := G3.out.cell (k := 0) rfl
      have z5 := G3.out.cell (k := 5) rfl
      simp only [List.getElem_toArray, List.getElem_cons_zero, List.getElem_cons_succ] at z0 z5
      by_cases h3 : r2 = 0
      · subst h3
        have ER3 : Hid (stepC codeS p = alongC p) := by
          have q := ER2.out
          rw [if_pos rfl] at q
          exact q
        clear ER2
        go_upto_region 10 with (go_at_call 29; (with_reducible refine (NC1.out _ B3.out).mono ?_); rintro e w4 ⟨rfl, b4⟩; have B4 := hiddenC (B3.out.trans (b4.mono B3.out.size)); have G4 := hiddenC (G3.out.below b4); clear b4)
        clear z0 z5
        have z0 := G4.out.cell (k := 0) rfl
        have z1 := G4.out.cell (k := 1) rfl
        have z2 := G4.out.cell (k := 2) rfl
        have z3 := G4.out.cell (k := 3) rfl
        have z4 := G4.out.cell (k := 4) rfl
        have z5 := G4.out.cell (k := 5) rfl
        have z6 := G4.out.cell (k := 6) rfl
        simp only [List.getElem_toArray, List.getElem_cons_zero, List.getElem_cons_succ] at z0 z1 z2 z3 z4 z5 z6
        go_wp2_with (go_at_call 30; (with_reducible refine (AC1.out _ B4.out).mono ?_); rintro e w5 ⟨rfl, b5⟩; have B5 := hiddenC (B4.out.trans (b5.mono B4.out.size)); clear b5)
        rw [← HPE.out, ER3.out]
        exact ⟨rfl, B5.out⟩
      · have q3 : (r2 != 0) = true := by simpa using h3
        have ER3 : Hid (stepC codeS p = (0, r2)) := by
          have q := ER2.out
          rw [if_neg h3] at q
          exact q
        clear ER2 h3
        go_wp2_with (go_at_call 29; (with_reducible refine (NC1.out _ B3.out).mono ?_); rintro e w4 ⟨rfl, b4⟩; have B4 := hiddenC (B3.out.trans (b4.mono B3.out.size)); clear b4)
        rw [← HPE.out, ER3.out]
        exact ⟨rfl, B4.out⟩
    · have q2 : (r1 != 0) = true := by simpa using h2
      have ER2 : Hid (stepC codeS p = (0, r1)) := by
        have q := ER1.out
        rw [if_neg h2] at q
        exact q
      clear ER1 h2
      go_wp2_with (go_at_call 28; (with_reducible refine (PC1.out _ B2.out).mono ?_); rintro e w3 ⟨rfl, b3⟩; have B3 := hiddenC (B2.out.trans (b3.mono B2.out.size)); clear b3)
      rw [← HPE.out, ER2.out]
      exact ⟨rfl, B3.out⟩
  · have q1 : (limC p != 0) = true := by simpa using h1
    have ER1 : Hid (stepC codeS p = (0, limC p)) := by
      have q := ER.out
      rw [if_neg h1] at q
      exact q
    clear PC NC AC ER h1
    generalize limC p = r0 at *
    go_wp2_with (go_at_call 27; (with_reducible refine (LC.out _).mono ?_); rintro e w2 ⟨rfl, b2⟩; have B2 := hiddenC (B0.out.trans (b2.mono B0.out.size)); clear b2)
    rw [← HPE.out, ER1.out]
    exact ⟨rfl, B2.out⟩
set_option maxRecDepth 100000 in
set_option maxHeartbeats 2000000 in
theorem checkC_any (p : PrgC) (aP : Option Addr) (cP : Nat) (aL : Option Addr) (cL : Nat) (aO : Option Addr) (cO : Nat) (LP : List (PrtC × (Option Addr × Nat))) (LL : List (LinC × (Option Addr × Nat))) (W : World) (hL : PrgL W p aP aL aO LP LL) (hF : FitP p) :
    Calls Try.prog 8 #[prgV p aP cP aL cL aO cO] W fun e w' => e = .returned (.int .i64 (stepC codeS p).2) ∧ Below W.heap.size W w' := by
  have b0 := (Below.refl W.heap.size W).alloc (Nat.le_refl _) (.cells #[.int .i64 p.mem, .int .i64 p.cnt, .int .i64 p.ins, .int .i64 p.outs, .slice aP p.parts.length cP, .slice aL p.lines.length cL, .slice aO p.ops.length cO] 26)
  have SC := hiddenC (steps_any p aP cP aL cL aO cO LP LL _ (hL.below b0) hF)
  unfold prgV at SC ⊢
  generalize p.parts.length = nP at *
  generalize p.lines.length = nL at *
  generalize p.ops.length = nO at *
  obtain ⟨r, hr⟩ : ∃ r, stepC codeS p = r := ⟨_, rfl⟩
  obtain ⟨r1, r2⟩ := r
  rw [hr] at SC ⊢
  simp only at SC ⊢
  have B0 := hiddenC b0
  have G0 := hiddenC (blkA_new 26 W #[.int .i64 p.mem, .int .i64 p.cnt, .int .i64 p.ins, .int .i64 p.outs, .slice aP nP cP, .slice aL nL cL, .slice aO nO cO])
  have z0 := G0.out.cell (k := 0) rfl
  have z1 := G0.out.cell (k := 1) rfl
  have z2 := G0.out.cell (k := 2) rfl
  have z3 := G0.out.cell (k := 3) rfl
  have z4 := G0.out.cell (k := 4) rfl
  have z5 := G0.out.cell (k := 5) rfl
  have z6 := G0.out.cell (k := 6) rfl
  simp only [List.getElem_toArray, List.getElem_cons_zero, List.getElem_cons_succ] at z0 z1 z2 z3 z4 z5 z6
  clear hL hF b0 hr
  go_enter Try.func8, Try.ntmps8
  go_upto_region 1 with fail
  generalize W.alloc (.cells #[.int .i64 p.mem, .int .i64 p.cnt, .int .i64 p.ins, .int .i64 p.outs, .slice aP nP cP, .slice aL nL cL, .slice aO nO cO] 26) = W1 at *
  go_wp2_with (go_at_call 13; (with_reducible refine SC.out.mono ?_); rintro e w2 ⟨rfl, b2⟩; have B2 := hiddenC (B0.out.trans (b2.mono B0.out.size)); clear b2)
  go_ret
  exact ⟨rfl, B2.out⟩
end Go.Proofs.Ytdjplmlfcolklaa

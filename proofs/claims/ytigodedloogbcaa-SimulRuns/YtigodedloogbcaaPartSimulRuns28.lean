/- Texts of one chain, laid one behind the other. -/
import Derived.Test.YtigodedloogbcaaPartSimulRuns27
import Derived.Test.YtigodedloogbcaaPartSimulRuns23
import Derived.Laws.OwnMore
import Derived.Test.YtigodedloogbcaaPartSimulRuns3
import Derived.Test.YtigodedloogbcaaPartSimulRuns26
namespace Go.Proofs.Ytigodedloogbcaa
open Go.ChangeShapes Go.WideShapes Go.ChangeAt Go.RowKit
def ElB (b : BK) (u : World) (z : Value) : Prop := ∃ g, z = .slice (some ⟨g, 0, none⟩) 1 1 ∧ u.cell? ⟨g, 0, none⟩ = some (.int .i64 b.n) ∧ u.cell? ⟨g, 1, none⟩ = some (.int .i64 b.f) ∧ u.cell? ⟨g, 2, none⟩ = some (.int .i64 b.a)
def SlB (B : Nat) (L : List BK) (u : World) (z : Value) : Prop := ∃ d c, z = .slice d L.length c ∧ CapB B u d c L
theorem SlB.later {B : Nat} {L : List BK} {u u' : World} {z : Value} (h : SlB B L u z) (hb : Below u.heap.size u u') : SlB B L u' z := by
  obtain ⟨d, c, e, h⟩ := h
  exact ⟨d, c, e, h.later hb⟩
theorem ElB.later {b : BK} {u u' : World} {z : Value} (h : ElB b u z) (hb : Below u.heap.size u u') : ElB b u' z := by
  obtain ⟨g, e, h0, h1, h2⟩ := h
  exact ⟨g, e, cellN_later hb h0, cellN_later hb h1, cellN_later hb h2⟩
theorem mark_appB {V w : World} {o : Oper} {ρ : Operand → Value} (s x : Operand) (ho : o.op = .call { callee := .builtin .append, args := #[s, x], argTypes := #[27, 27] }) {B c0 : Nat} {d0 : Option Addr} {zs : List BK} {b : BK} (hs : ρ s = .slice d0 zs.length c0) (hown : CapB B V d0 c0 zs) (hb : Below V.heap.size V w) (hx : ElB b w (ρ x)) (hn : zs.length ≤ 1000000) (hB : B ≤ V.heap.size)
    {T : World → Value → Prop} (h : ∀ u d c, CapB B u d c (zs ++ [b]) → Below B V u → T u (.slice d (zs.length + 1) c)) : markUpon Try.prog w T ((execOp ρ o).run Try.prog w) := by
  obtain ⟨g, hx, h0, h1, h2⟩ := hx
  obtain ⟨i1, hi1, hy0, hy1, hy2⟩ := info_parts Try.infoBk
  have hown2 : CapB B w d0 c0 zs := hown.later hb
  obtain ⟨v', w', hr, h2, h3⟩ := run_append_told (P := Try.prog) w B 27 o.type 56 i1 _ 3 24 Try.underlying27 hi1 hy0 hy1 hy2 rfl (by decide) (.slice d0 zs.length c0) zs.length _ hown2 ⟨g, 0, none⟩ 1 1 (by decide) [.int .i64 b.n, .int .i64 b.f, .int .i64 b.a] rfl (fun k u hu => by
    match k, hu with
    | 0, hu => simp at hu; subst hu; simpa [Addr.add] using h0
    | 1, hu => simp at hu; subst hu; simpa [Addr.add] using h1
    | 2, hu => simp at hu; subst hu; simpa [Addr.add] using h2) (fun u hu => by simp at hu; rcases hu with rfl | rfl | rfl <;> rfl) (by unfold maxLen; omega) (by omega) (Nat.le_trans hB hb.size)
  have h2' : w'.ownsRow B 56 3 v' (zs ++ [b]).length (flatB (zs ++ [b])) := by rw [flatB_append, List.length_append]; exact h2
  unfold execOp
  simp only [ho, resolve, invoke, builtin, Sem.run_bind, Sem.run_pure, Result.andThen_ok, List.map_toArray, List.map_cons, List.map_nil, hs, hx, hr]
  rcases h3 with ⟨g1, cap, e1, rfl, hg⟩ | ⟨cap, rfl, hg⟩
  · simp at e1
    refine h w' _ _ (by unfold CapB; rw [List.length_append] at h2' ⊢; exact h2') ((hb.mono hB).grown hg (Nat.le_trans hB hb.size) (fun k hk => ?_))
    cases hk
    exact (hown.lt _ e1.1).1
  · exact h w' _ _ (by unfold CapB; rw [List.length_append] at h2' ⊢; exact h2') ((hb.mono hB).grown hg (Nat.le_trans hB hb.size) (fun k hk => by cases hk))
set_option maxRecDepth 100000 in
set_option maxHeartbeats 8000000 in
theorem blocksU_any {B E : Nat} (w : World) (K0 K gL gO cL cO : Nat) (n : NN) (T F L R O : List Int) (h : RnU B E w K0 K gL gO cL cO n T F L O) (hL : LfU n R F L) (hS : SoundN n) (hF : F.length = n.nodes.toNat) :
    Calls Try.prog 22 #[.pointer (some ⟨K0, 0, none⟩)] w fun e w' => ∃ d c, e = .returned (.slice d (blkU n R T F n.nodes.toNat).length c) ∧ CapB w.heap.size w' d c (blkU n R T F n.nodes.toNat) ∧ Below w.heap.size w w' := by
  obtain ⟨RE, hRE⟩ : ∃ Q, (fun (e : Ending) (w' : World) => ∃ d c, e = .returned (.slice d (blkU n R T F n.nodes.toNat).length c) ∧ CapB w.heap.size w' d c (blkU n R T F n.nodes.toNat) ∧ Below w.heap.size w w') = Q := ⟨_, rfl⟩
  rw [hRE]
  have HRE := hiddenN hRE
  have H0 := hiddenN h
  have HL := hiddenN hL
  have y0 := h.blk.cell (k := 0) rfl
  simp only [List.getElem_toArray, List.getElem_cons_zero] at y0
  have FD := hiddenN (fired_any w K n T F h.st)
  unfold RowEndN at FD
  have hnn := nodes_nat hS
  obtain ⟨N, hN⟩ : ∃ N, n.nodes.toNat = N := ⟨_, rfl⟩
  have HN := hiddenN hN
  rw [hN] at hnn hF HRE
  rw [hF] at FD
  have hlL := h.lL
  rw [hN] at hlL
  clear hRE h hL hN
  go_enter Try.func22, Try.ntmps22
  go_upto_region 3 with (go_at_call 40; (with_reducible refine FD.out.mono ?_); rintro e w1 ⟨aF, cF, rfl, hf1, b1⟩; have F1 := hiddenN hf1; have B1 := hiddenN b1; clear hf1 b1)
  clear FD y0
  obtain ⟨gF, ea, hg1, hg2⟩ := F1.out.there (by rw [hF]; omega)
  subst ea
  have H1 := hiddenN (H0.out.below B1.out)
  have y1 := H1.out.blk.cell (k := 1) rfl
  simp only [List.getElem_toArray, List.getElem_cons_zero, List.getElem_cons_succ] at y1
  rw [hlL] at y1
  go_upto_region 4 with fail
  clear y1
  obtain ⟨Q, hQ⟩ : ∃ q, w1.heap.size = q := ⟨_, rfl⟩
  have HQ := hiddenN hQ
  have hQ1 : Q ≤ w1.heap.size := by omega
  have hgF : gF < Q := by omega
  have hlts := H1.out.lts
  rw [hQ] at hlts
  clear hQ H0
  have SHa : Hid (∀ (W : World), Below Q w1 W → ∀ v : Int, Calls Try.prog 41 #[.pointer (some ⟨K, 0, none⟩), .int .i64 v] W fun e w' => e = .returned (.int .i64 (shortN n T v)) ∧ Below W.heap.size W w') := fun W hW v => short_any W K n T F (H1.out.st.keep (fun k _ hk => hW.block k (by omega)) hW.size) v
  go_loopg [3, 17] N (fun gk u3 u17 wr => ∃ (k c : Nat) (d : Option Addr), k ≤ N ∧ gk = N - k ∧ u17 = .int .i64 (k : Int) ∧ u3 = .slice d (blkU n R T F k).length c ∧ CapB Q wr d c (blkU n R T F k) ∧ Below Q w1 wr)
  case atStart => exact ⟨0, 0, none, Nat.zero_le _, rfl, rfl, rfl, CapB.nil _ _, Below.refl _ _⟩
  case round =>
    obtain ⟨k, c, d, hk, rfl, rfl, rfl, hcap, hbw⟩ := hrel
    have CM := hiddenN hcap
    have BW := hiddenN hbw
    clear hcap hbw
    by_cases hlt : k < N
    · have hkN : k < N := hlt
      have hkI : (k : Int) < (N : Int) := by omega
      have hkL : k < L.length := by rw [hlL]; exact hlt
      have L1 := H1.out.lef.keep (w' := wr) (fun x hx => by cases hx; exact BW.out.block _ hlts.2.1.2)
      rcases L1.at with e | ⟨lb, lo, el, hcl⟩
      · rw [e] at hkL; exact absurd hkL (Nat.not_lt_zero _)
      cases el
      have c1 := hcl k hkL
      rw [Nat.zero_add] at c1
      have hLk := HL.out k (by rw [HN.out]; exact hlt)
      rcases F1.out.at with e | ⟨fb, fo, ef, hcf⟩
      · rw [e] at hF; simp at hF; omega
      cases ef
      have c0 := hcf k (by rw [hF]; exact hlt)
      rw [Nat.zero_add] at c0
      have y0 := H1.out.blk.cell (k := 0) rfl
      simp only [List.getElem_toArray, List.getElem_cons_zero] at y0
      have hK0 := hlts.1
      clear L1 hcl hcf
      by_cases hl : nth F k < nth R k
      · have hx : nth L k > 0 := by omega
        have WS := hiddenN (blkU_yes (n := n) (T := T) hl)
        have hMl := blkU_len n R T F k
        have SH : Hid (∀ (W : World), Below wr.heap.size wr W → Calls Try.prog 41 #[.pointer (some ⟨K, 0, none⟩), .int .i64 (k : Int)] W fun e w' => e = .returned (.int .i64 (shortN n T (k : Int))) ∧ Below W.heap.size W w') := fun W hW => SHa.out W (BW.out.trans (hW.mono (Nat.le_trans hQ1 BW.out.size))) _
        have hQr : Q ≤ wr.heap.size := Nat.le_trans hQ1 BW.out.size
        clear hl hLk SHa
        generalize shortN n T (k : Int) = y at *
        generalize nth F k = x at *
        generalize nth L k = lz at *
        generalize blkU n R T F k = M at *
        go_upto_region 7 with fail
        refine wp_region_gen [14] (fun d_ i u z => match i with
            | 0 => z = .slice d M.length c
            | 1 => z = .int .i64 (k : Int)
            | 2 => z = .slice (some ⟨gF, 0, none⟩) N cF
            | 3 => z = .int .i64 (k : Int)
            | 4 => z = .pointer (some ⟨gF, k, none⟩)
            | 5 => z = .int .i64 x
            | 6 => z = .pointer (some ⟨K0, 0, none⟩)
            | 7 => z = .pointer (some ⟨K0, 0, none⟩)
            | 8 => z = .pointer (some ⟨K0, 0, none⟩)
            | 9 => z = .pointer (some ⟨K, 0, none⟩)
            | 10 => z = .int .i64 (k : Int)
            | 11 => z = .int .i64 y
            | 12 => z = .agg #[.int .i64 (k : Int), .int .i64 x, .int .i64 y]
            | 13 => (d_ 14 = false → ElB (⟨(k : Int), x, y⟩ : BK) u z)
            | 14 => (d_ 14 = true ∧ SlB Q (M ++ [(⟨(k : Int), x, y⟩ : BK)]) u z)
            | 15 => (d_ 14 = true ∧ SlB Q (M ++ [(⟨(k : Int), x, y⟩ : BK)]) u z)
            | _ => True) (fun d_ u => (d_ 14 = false → Below wr.heap.size wr u) ∧ Below Q w1 u) (by kernel_rfl) (by kernel_rfl) (by kernel_rfl) ?_ ?_ ?_ ?_ ?_ ?_ (by kernel_rfl)
        · intro d_ i w v w' h hb
          match i, h with
          | 0, h => exact h
          | 1, h => exact h
          | 2, h => exact h
          | 3, h => exact h
          | 4, h => exact h
          | 5, h => exact h
          | 6, h => exact h
          | 7, h => exact h
          | 8, h => exact h
          | 9, h => exact h
          | 10, h => exact h
          | 11, h => exact h
          | 12, h => exact h
          | 13, h => exact fun e => (h e).later hb
          | 14, h => exact ⟨h.1, h.2.later hb⟩
          | 15, h => exact ⟨h.1, h.2.later hb⟩
          | _ + 16, _ => trivial
        · intro d_ u u' h hb
          exact ⟨fun e => (h.1 e).trans (hb.mono (h.1 e).size), h.2.trans (hb.mono (Nat.le_trans hQ1 h.2.size))⟩
        · exact ⟨fun _ => Below.refl _ _, BW.out⟩
        · intro d_ i o ρ w' hm ho hf hg hC hcs hfs hfr hdep
          match i, hm, ho, hf, hg, hfr, hdep with
          | 0, _, ho, hf, hg, hfr, hdep =>
            simp only [gTA, gCZ, gSI] at ho
            subst ho
            refine ⟨fun _ => ?_, fun hw => absurd (show true = false from hw) (by decide)⟩
            have ts : ρ (.tmp 3) = .slice d M.length c := hfr 3 (by kernel_rfl)
            simp [go_sem, ts]
            exact ⟨Below.refl _ _, rfl⟩
          | 1, _, ho, hf, hg, hfr, hdep =>
            simp only [gTA, gCZ, gCS, gSI] at ho
            subst ho
            refine ⟨fun _ => ?_, fun hw => absurd (show true = false from hw) (by decide)⟩
            have ts : ρ (.tmp 5) = .int .i64 (k : Int) := hfr 5 (by kernel_rfl)
            simp [go_sem, ts]
            exact ⟨Below.refl _ _, rfl⟩
          | 2, _, ho, hf, hg, hfr, hdep =>
            simp only [gTA, gCZ, gCS, gSI] at ho
            subst ho
            refine ⟨fun _ => ?_, fun hw => absurd (show true = false from hw) (by decide)⟩
            have ts : ρ (.tmp 4) = .slice (some ⟨gF, 0, none⟩) N cF := hfr 4 (by kernel_rfl)
            simp [go_sem, ts]
            exact ⟨Below.refl _ _, rfl⟩
          | 3, _, ho, hf, hg, hfr, hdep =>
            simp only [gTA, gCZ, gCS, gSI] at ho
            subst ho
            refine ⟨fun _ => ?_, fun hw => absurd (show true = false from hw) (by decide)⟩
            have ts : ρ (.tmp 5) = .int .i64 (k : Int) := hfr 5 (by kernel_rfl)
            simp [go_sem, ts]
            exact ⟨Below.refl _ _, rfl⟩
          | 4, _, ho, hf, hg, hfr, hdep =>
            simp only [gTA, gCZ, gCS, gSI] at ho
            subst ho
            refine ⟨fun _ => ?_, fun hw => absurd (show true = false from hw) (by decide)⟩
            have d0 : ρ (.tmp 26) = .slice (some ⟨gF, 0, none⟩) N cF := hdep 2 26 (by kernel_rfl) (by kernel_rfl)
            have d1 : ρ (.tmp 27) = .int .i64 (k : Int) := hdep 3 27 (by kernel_rfl) (by kernel_rfl)
            simp [go_sem, d0, d1, hkN]
            exact ⟨Below.refl _ _, rfl⟩
          | 5, _, ho, hf, hg, hfr, hdep =>
            simp only [gTA, gCZ, gCS, gSI] at ho
            subst ho
            refine ⟨fun _ => ?_, fun hw => absurd (show true = false from hw) (by decide)⟩
            have cc := cellN_keep hC.2 hgF c0
            have d0 : ρ (.tmp 28) = .pointer (some ⟨gF, k, none⟩) := hdep 4 28 (by kernel_rfl) (by kernel_rfl)
            simp [go_sem, d0, cc]
            exact ⟨Below.refl _ _, rfl⟩
          | 6, _, ho, hf, hg, hfr, hdep =>
            simp only [gTA, gCZ, gCS, gSI] at ho
            subst ho
            refine ⟨fun _ => ?_, fun hw => absurd (show true = false from hw) (by decide)⟩
            have ts : ρ (.tmp 0) = .pointer (some ⟨K0, 0, none⟩) := hfr 0 (by kernel_rfl)
            simp [go_sem, ts]
            exact ⟨Below.refl _ _, rfl⟩
          | 7, _, ho, hf, hg, hfr, hdep =>
            simp only [gTA, gCZ, gCS, gSI] at ho
            subst ho
            refine ⟨fun _ => ?_, fun hw => absurd (show true = false from hw) (by decide)⟩
            have d0 : ρ (.tmp 30) = .pointer (some ⟨K0, 0, none⟩) := hdep 6 30 (by kernel_rfl) (by kernel_rfl)
            simp [go_sem, d0]
            exact ⟨Below.refl _ _, rfl⟩
          | 8, _, ho, hf, hg, hfr, hdep =>
            simp only [gTA, gCZ, gCS, gSI] at ho
            subst ho
            refine ⟨fun _ => ?_, fun hw => absurd (show true = false from hw) (by decide)⟩
            have d0 : ρ (.tmp 31) = .pointer (some ⟨K0, 0, none⟩) := hdep 7 31 (by kernel_rfl) (by kernel_rfl)
            simp [go_sem, d0]
            exact ⟨Below.refl _ _, rfl⟩
          | 9, _, ho, hf, hg, hfr, hdep =>
            simp only [gTA, gCZ, gCS, gSI] at ho
            subst ho
            refine ⟨fun _ => ?_, fun hw => absurd (show true = false from hw) (by decide)⟩
            have cc := cellN_keep hC.2 hK0 y0
            have d0 : ρ (.tmp 32) = .pointer (some ⟨K0, 0, none⟩) := hdep 8 32 (by kernel_rfl) (by kernel_rfl)
            simp [go_sem, d0, cc]
            exact ⟨Below.refl _ _, rfl⟩
          | 10, _, ho, hf, hg, hfr, hdep =>
            simp only [gTA, gCZ, gCS, gSI] at ho
            subst ho
            refine ⟨fun _ => ?_, fun hw => absurd (show true = false from hw) (by decide)⟩
            have ts : ρ (.tmp 5) = .int .i64 (k : Int) := hfr 5 (by kernel_rfl)
            simp [go_sem, ts]
            exact ⟨Below.refl _ _, rfl⟩
          | 11, _, ho, hf, hg, hfr, hdep =>
            simp only [gTA, gCZ, gCS, gSI] at ho
            subst ho
            refine ⟨fun _ => ?_, fun hw => absurd (show true = false from hw) (by decide)⟩
            have t0 : ρ (.tmp 33) = .pointer (some ⟨K, 0, none⟩) := hdep 9 33 (by kernel_rfl) (by kernel_rfl)
            have t1 : ρ (.tmp 34) = .int .i64 (k : Int) := hdep 10 34 (by kernel_rfl) (by kernel_rfl)
            have h14 : d_ 14 = false := hf 14 (by decide) (by kernel_rfl)
            simp [go_sem, t0, t1, hfs]
            exact ⟨rfl, (SH.out w' (hC.1 h14)).mono fun e w'' hh => ⟨_, hh.1, hh.2, rfl⟩⟩
          | 12, _, ho, hf, hg, hfr, hdep =>
            simp only [gTA, gCZ, gCS, gSI] at ho
            subst ho
            refine ⟨fun _ => ?_, fun hw => absurd (show true = false from hw) (by decide)⟩
            have d0 : ρ (.tmp 25) = .int .i64 (k : Int) := hdep 1 25 (by kernel_rfl) (by kernel_rfl)
            have d1 : ρ (.tmp 29) = .int .i64 x := hdep 5 29 (by kernel_rfl) (by kernel_rfl)
            have d2 : ρ (.tmp 35) = .int .i64 y := hdep 11 35 (by kernel_rfl) (by kernel_rfl)
            simp [go_sem, d0, d1, d2]
            exact ⟨Below.refl _ _, rfl⟩
          | 13, _, ho, hf, hg, hfr, hdep =>
            simp only [gTA, gCZ, gCS, gSI] at ho
            subst ho
            refine ⟨fun _ => ?_, fun hw => absurd (show true = false from hw) (by decide)⟩
            have t0 : ρ (.tmp 36) = .agg #[.int .i64 (k : Int), .int .i64 x, .int .i64 y] := hdep 12 36 (by kernel_rfl) (by kernel_rfl)
            simp [go_sem, t0]
            exact ⟨(Below.refl _ _).alloc (Nat.le_refl _) _, fun _ => ⟨w'.heap.size, rfl, (blkA_new 56 w' #[.int .i64 (k : Int), .int .i64 x, .int .i64 y]).cell rfl, (blkA_new 56 w' #[.int .i64 (k : Int), .int .i64 x, .int .i64 y]).cell rfl, (blkA_new 56 w' #[.int .i64 (k : Int), .int .i64 x, .int .i64 y]).cell rfl⟩⟩
          | 14, hm, _, _, _, _, _ => exact absurd hm (by decide)
          | 15, _, ho, hf, hg, hfr, hdep =>
            simp only [gTA, gCZ, gCS, gSI] at ho
            subst ho
            refine ⟨fun _ => ?_, fun hw => absurd (show true = false from hw) (by decide)⟩
            have t0 : d_ 14 = true ∧ SlB Q (M ++ [(⟨(k : Int), x, y⟩ : BK)]) w' (ρ (.tmp 38)) := hdep 14 38 (by kernel_rfl) (by kernel_rfl)
            obtain ⟨qd, d9, c9, q0, q1⟩ := t0
            simp [go_sem, q0]
            exact ⟨Below.refl _ _, qd, d9, c9, by rw [List.length_append]; rfl, q1⟩
          | n + 16, _, ho, _, _, _, _ => simp at ho
        · intro d_ i o ρ w' hm ho h0 hf hg hC hcs hfs hfr hdep
          match i, hm, ho, h0, hf, hg, hfr, hdep with
          | 0, hm, _, _, _, _, _, _ => exact absurd hm (by decide)
          | 1, hm, _, _, _, _, _, _ => exact absurd hm (by decide)
          | 2, hm, _, _, _, _, _, _ => exact absurd hm (by decide)
          | 3, hm, _, _, _, _, _, _ => exact absurd hm (by decide)
          | 4, hm, _, _, _, _, _, _ => exact absurd hm (by decide)
          | 5, hm, _, _, _, _, _, _ => exact absurd hm (by decide)
          | 6, hm, _, _, _, _, _, _ => exact absurd hm (by decide)
          | 7, hm, _, _, _, _, _, _ => exact absurd hm (by decide)
          | 8, hm, _, _, _, _, _, _ => exact absurd hm (by decide)
          | 9, hm, _, _, _, _, _, _ => exact absurd hm (by decide)
          | 10, hm, _, _, _, _, _, _ => exact absurd hm (by decide)
          | 11, hm, _, _, _, _, _, _ => exact absurd hm (by decide)
          | 12, hm, _, _, _, _, _, _ => exact absurd hm (by decide)
          | 13, hm, _, _, _, _, _, _ => exact absurd hm (by decide)
          | 14, _, ho, h0, hf, hg, hfr, hdep =>
            simp only [gTA, gCZ, gCS, gSI] at ho
            subst ho
            have t0 : ρ (.tmp 24) = .slice d M.length c := hdep 0 24 (by kernel_rfl) (by kernel_rfl)
            have t1 : ElB (⟨(k : Int), x, y⟩ : BK) w' (ρ (.tmp 37)) := hdep 13 37 (by kernel_rfl) (by kernel_rfl) h0
            refine ⟨rfl, mark_appB (.tmp 24) (.tmp 37) rfl t0 CM.out (hC.1 h0) t1 (by omega) hQr ?_⟩
            intro u9 d9 c9 hG hB9
            refine ⟨⟨fun e => absurd e (by rw [doneAt_eq]; decide), BW.out.trans hB9⟩, fun _ => ⟨doneAt_eq _ _, d9, c9, by rw [List.length_append]; rfl, hG⟩, ?_⟩
            intro i t hi hs
            match i, hi, hs with
            | 0, _, hs => exact hs
            | 1, _, hs => exact hs
            | 2, _, hs => exact hs
            | 3, _, hs => exact hs
            | 4, _, hs => exact hs
            | 5, _, hs => exact hs
            | 6, _, hs => exact hs
            | 7, _, hs => exact hs
            | 8, _, hs => exact hs
            | 9, _, hs => exact hs
            | 10, _, hs => exact hs
            | 11, _, hs => exact hs
            | 12, _, hs => exact hs
            | 13, _, hs => exact fun e => absurd e (by rw [doneAt_eq]; decide)
            | 14, _, hs => exact absurd hs.1 (by rw [h0]; decide)
            | 15, _, hs => exact absurd hs.1 (by rw [h0]; decide)
            | _ + 16, _, _ => trivial
          | 15, hm, _, _, _, _, _, _ => exact absurd hm (by decide)
          | n + 16, _, ho, _, _, _, _, _ => simp at ho
        · intro U2 W2 hC2 hS
          obtain ⟨-, d2, c2, e15, D2⟩ : true = true ∧ SlB Q (M ++ [(⟨(k : Int), x, y⟩ : BK)]) W2 (U2 15) := hS 15 (by decide) (by intro h; cases h)
          simp only [puts, e15]
          simp only [Act.put, List.setIfInBounds_toArray, List.set_cons_zero, List.set_cons_succ]
          clear hS e15
          have D2' := hiddenN D2
          have B2 := hiddenN hC2.2
          rw [← WS.out] at D2'
          clear D2 hC2
          go_wp2
          go_roundg (N - (k + 1))
          case measure => omega
          case rel => exact ⟨k + 1, c2, d2, by omega, rfl, by go_num, by rw [WS.out], D2'.out, B2.out⟩
      · have hx : ¬ nth L k > 0 := by omega
        have WS := hiddenN (blkU_no (n := n) (T := T) hl)
        clear hl hLk y0 c0
        generalize nth L k = lz at *
        go_wp2
        go_roundg (N - (k + 1))
        case measure => omega
        case rel => exact ⟨k + 1, c, d, by omega, rfl, by go_num, by rw [WS.out], by rw [WS.out]; exact CM.out, BW.out⟩
    · have ek : k = N := by omega
      subst ek
      go_wp2
      rw [← HRE.out]
      have hQw : w.heap.size ≤ Q := by rw [← HQ.out]; exact B1.out.size
      exact ⟨d, c, rfl, CM.out.mono hQw, B1.out.trans (BW.out.mono hQw)⟩
def errU (n : NN) (R P : List Int) : Int := if hoE n R = 0 then (if hoB n R = true then (if 2048 < sumU R then 5 else if arnU n P = true then 0 else 100) else 130) else hoE n R
structure GoodU (n : NN) (R : List Int) : Prop where
  check : checkN n = 0
  len : R.length = n.nodes.toNat
  nodes : R.length ≤ 32
  win : ∀ k, k < R.length → 1 ≤ nth R k ∧ nth R k ≤ 4096
  bal : BalU n R
theorem ev_int {n : NN} {R : List Int} {i : Nat} (he : EvB n.arcs (natB R) i) (hsa : SoundA n.nodes (nthNa n.arcs i)) (w1 : 1 ≤ nth R (nthNa n.arcs i).f.toNat) (w2 : 1 ≤ nth R (nthNa n.arcs i).t.toNat) : (nthNa n.arcs i).g * nth R (nthNa n.arcs i).f.toNat = (nthNa n.arcs i).k * nth R (nthNa n.arcs i).t.toNat := by
  unfold EvB gN kN fN tN natB at he
  have e := congrArg (fun z : Nat => (z : Int)) he
  have hg := hsa.g; have hk := hsa.k
  simp only [Int.natCast_mul] at e
  rw [Int.toNat_of_nonneg (by omega), Int.toNat_of_nonneg (by omega), Int.toNat_of_nonneg (by omega), Int.toNat_of_nonneg (by omega)] at e
  exact e
theorem good_of {n : NN} {R : List Int} (h : hoB n R = true) : GoodU n R := by
  unfold hoB at h
  rw [Bool.and_eq_true, Bool.and_eq_true, Bool.and_eq_true, decide_eq_true_iff, decide_eq_true_iff] at h
  obtain ⟨h1, h2, h3, h4⟩ := h
  have hS := check_sound h1
  have hn := hS.nodes
  have hw := winB_iff.1 h3
  refine ⟨h1, by omega, by omega, hw, fun i hi => ?_⟩
  have hf : fuB n.arcs (natB R) = none := by
    cases hx : fuB n.arcs (natB R) with
    | none => rfl
    | some j => rw [hx] at h4; cases h4
  have he := fuB_all hf i hi
  have hsa := hS.arcs i hi
  have ha := hsa.f; have ht := hsa.t
  have w1 := hw (nthNa n.arcs i).f.toNat (by omega)
  have w2 := hw (nthNa n.arcs i).t.toNat (by omega)
  exact ev_int he hsa w1.1 w2.1
theorem check_not {n : NN} {R P : List Int} (h : ¬ hoE n R = 0) : errU n R P = hoE n R := by unfold errU; rw [if_neg h]
set_option maxRecDepth 100000 in
set_option maxHeartbeats 4000000 in
theorem checkU_any (n : NN) (a : Option Addr) (c : Nat) (R : List Int) (r : Option Addr) (rc : Nat) (P : List Int) (p : Option Addr) (pc : Nat) (w : World) (h : AtN w a n.arcs) (hl : n.arcs.length ≤ 4611686018427387904) (hr : At w r R) (hR : R.length ≤ 4611686018427387904) (hp : At w p P) (hP : P.length ≤ 4611686018427387904) :
    Calls Try.prog 19 #[.agg #[.int .i64 n.nodes, .slice a n.arcs.length c], .slice r R.length rc, .slice p P.length pc] w fun e w' => e = .returned (.int .i64 (errU n R P)) ∧ Below w.heap.size w w' := by
  have b0 := (Below.refl w.heap.size w).alloc (Nat.le_refl _) (.cells #[.int .i64 n.nodes, .slice a n.arcs.length c] 24)
  have X0 := hiddenN (blkA_new 24 w #[.int .i64 n.nodes, .slice a n.arcs.length c])
  have B0 := hiddenN b0
  have HO := hiddenN (holds_any n a c R r rc _ (h.below b0) hl (hr.below b0) hR)
  have HR := hiddenN (hr.below b0)
  have HP := hiddenN (hp.below b0)
  clear b0 h hr hp
  have y0 := X0.out.cell (k := 0) rfl
  have y1 := X0.out.cell (k := 1) rfl
  simp only [List.getElem_toArray, List.getElem_cons_zero, List.getElem_cons_succ] at y0 y1
  by_cases he : hoE n R = 0
  · rw [he] at HO
    cases hb : hoB n R with
    | false =>
      have HE : Hid (errU n R P = 130) := by show _ = _; unfold errU; rw [if_pos he, hb]; rfl
      rw [hb] at HO
      clear hb he
      go_enter Try.func19, Try.ntmps19
      go_upto_region 1 with fail
      generalize w.alloc (.cells #[.int .i64 n.nodes, .slice a n.arcs.length c] 24) = W0 at *
      go_wp2_with (go_at_call 32; (with_reducible refine HO.out.mono ?_); rintro e W1 ⟨rfl, b1⟩; have L1 := hiddenN (B0.out.trans (b1.mono B0.out.size)); clear b1)
      go_ret
      exact ⟨by rw [HE.out]; rfl, L1.out⟩
    | true =>
      have hg := good_of hb
      have TT := hiddenN (fun (W : World) (hW : At W r R) => totalU_any r R R.length rc W rfl hg.nodes hg.win hW)
      have AN := hiddenN (fun (W : World) (hW : At W p P) => areNodes_any n a c p P P.length pc W rfl hP hW)
      rw [hb] at HO
      by_cases hs : 2048 < sumU R
      · have HE : Hid (errU n R P = 5) := by show _ = _; unfold errU; rw [if_pos he, if_pos hb, if_pos hs]
        clear hb he hg AN
        go_enter Try.func19, Try.ntmps19
        go_upto_region 1 with fail
        generalize w.alloc (.cells #[.int .i64 n.nodes, .slice a n.arcs.length c] 24) = W0 at *
        generalize sumU R = sm at *
        have hgt : sm > 2048 := hs
        go_wp2_with (first
          | (go_at_call 32; (with_reducible refine HO.out.mono ?_); rintro e W1 ⟨rfl, b1⟩; have L1 := hiddenN (B0.out.trans (b1.mono B0.out.size)); have R1 := hiddenN (HR.out.below b1); clear b1)
          | (go_at_call 33; (with_reducible refine (TT.out W1 R1.out).mono ?_); rintro e W2 ⟨rfl, rfl⟩))
        go_ret
        exact ⟨by rw [HE.out]; rfl, L1.out⟩
      · cases ha : arnU n P with
        | false =>
          have HE : Hid (errU n R P = 100) := by show _ = _; unfold errU; rw [if_pos he, if_pos hb, if_neg hs, ha]; rfl
          rw [ha] at AN
          clear hb he hg ha
          go_enter Try.func19, Try.ntmps19
          go_upto_region 1 with fail
          generalize w.alloc (.cells #[.int .i64 n.nodes, .slice a n.arcs.length c] 24) = W0 at *
          generalize sumU R = sm at *
          have hgt : ¬ sm > 2048 := hs
          go_wp2_with (first
            | (go_at_call 32; (with_reducible refine HO.out.mono ?_); rintro e W1 ⟨rfl, b1⟩; have L1 := hiddenN (B0.out.trans (b1.mono B0.out.size)); have R1 := hiddenN (HR.out.below b1); have P1 := hiddenN (HP.out.below b1); have z0 := (X0.out.below b1).cell (k := 0) rfl; have z1 := (X0.out.below b1).cell (k := 1) rfl; simp only [List.getElem_toArray, List.getElem_cons_zero, List.getElem_cons_succ] at z0 z1; clear b1 y0 y1)
            | (go_at_call 33; (with_reducible refine (TT.out W1 R1.out).mono ?_); rintro e W2 ⟨rfl, rfl⟩)
            | (go_at_call 34; (with_reducible refine (AN.out _ P1.out).mono ?_); rintro e W3 ⟨rfl, b3⟩; have L3 := hiddenN (L1.out.trans (b3.mono L1.out.size)); clear b3))
          go_ret
          exact ⟨by rw [HE.out]; rfl, L3.out⟩
        | true =>
          have HE : Hid (errU n R P = 0) := by show _ = _; unfold errU; rw [if_pos he, if_pos hb, if_neg hs, ha]; rfl
          rw [ha] at AN
          clear hb he hg ha
          go_enter Try.func19, Try.ntmps19
          go_upto_region 1 with fail
          generalize w.alloc (.cells #[.int .i64 n.nodes, .slice a n.arcs.length c] 24) = W0 at *
          generalize sumU R = sm at *
          have hgt : ¬ sm > 2048 := hs
          go_wp2_with (first
            | (go_at_call 32; (with_reducible refine HO.out.mono ?_); rintro e W1 ⟨rfl, b1⟩; have L1 := hiddenN (B0.out.trans (b1.mono B0.out.size)); have R1 := hiddenN (HR.out.below b1); have P1 := hiddenN (HP.out.below b1); have z0 := (X0.out.below b1).cell (k := 0) rfl; have z1 := (X0.out.below b1).cell (k := 1) rfl; simp only [List.getElem_toArray, List.getElem_cons_zero, List.getElem_cons_succ] at z0 z1; clear b1 y0 y1)
            | (go_at_call 33; (with_reducible refine (TT.out W1 R1.out).mono ?_); rintro e W2 ⟨rfl, rfl⟩)
            | (go_at_call 34; (with_reducible refine (AN.out _ P1.out).mono ?_); rintro e W3 ⟨rfl, b3⟩; have L3 := hiddenN (L1.out.trans (b3.mono L1.out.size)); clear b3))
          go_ret
          exact ⟨by rw [HE.out]; rfl, L3.out⟩
  · have HE := hiddenN (check_not (P := P) he)
    have hne : (hoE n R != 0) = true := by simpa using he
    generalize hoE n R = er at *
    generalize hoB n R = bo at *
    clear he
    go_enter Try.func19, Try.ntmps19
    go_upto_region 1 with fail
    generalize w.alloc (.cells #[.int .i64 n.nodes, .slice a n.arcs.length c] 24) = W0 at *
    go_wp2_with (go_at_call 32; (with_reducible refine HO.out.mono ?_); rintro e W1 ⟨rfl, b1⟩; have L1 := hiddenN (B0.out.trans (b1.mono B0.out.size)); clear b1)
    go_ret
    exact ⟨by rw [HE.out]; rfl, L1.out⟩
/-! ### begun -/
structure GhU where
  gL : Nat
  cL : Nat
  gO : Nat
  cO : Nat
structure CU (V : World) (R O : List Int) (y : GhU) (d : Nat → Bool) (u : World) : Prop where
  bel : Below V.heap.size V u
  l : d 2 = true → CapR V.heap.size u (some ⟨y.gL, 0, none⟩) y.cL R
  o : d 6 = true → CapR V.heap.size u (some ⟨y.gO, 0, none⟩) y.cO O
  dis : d 2 = true → d 6 = true → y.gL ≠ y.gO
theorem CU.start (V : World) (R O : List Int) (y : GhU) : CU V R O y (fun _ => false) V := ⟨Below.refl _ _, (fun h => by cases h), (fun h => by cases h), (fun h => by cases h)⟩
theorem CU.later {V u u' : World} {R O : List Int} {y : GhU} {d : Nat → Bool} (h : CU V R O y d u) (hb : Below u.heap.size u u') : CU V R O y d u' :=
  ⟨h.bel.trans (hb.mono h.bel.size), fun e => (h.l e).later hb, fun e => (h.o e).later hb, h.dis⟩
theorem CU.m2 {V u u' : World} {R O : List Int} {y : GhU} {d : Nat → Bool} {g c : Nat} (h : CU V R O y d u) (hw : CapR u.heap.size u' (some ⟨g, 0, none⟩) c R) (hb : Below u.heap.size u u') : CU V R O ⟨g, c, y.gO, y.cO⟩ (doneAt d 2) u' := by
  have k := h.later hb
  have e4 : doneAt d 2 6 = d 6 := doneAt_ne d (by decide)
  refine ⟨k.bel, fun _ => hw.mono h.bel.size, fun e => k.o (by rw [← e4]; exact e), fun _ e => ?_⟩
  rw [e4] at e
  have h1 := (hw.lt _ rfl).1
  have h2 := ((h.o e).lt _ rfl).2
  simp only at h1 h2 ⊢
  omega
theorem CU.m6 {V u u' : World} {R O : List Int} {y : GhU} {d : Nat → Bool} {g c : Nat} (h : CU V R O y d u) (hw : CapR u.heap.size u' (some ⟨g, 0, none⟩) c O) (hb : Below u.heap.size u u') : CU V R O ⟨y.gL, y.cL, g, c⟩ (doneAt d 6) u' := by
  have k := h.later hb
  have e4 : doneAt d 6 2 = d 2 := doneAt_ne d (by decide)
  refine ⟨k.bel, fun e => k.l (by rw [← e4]; exact e), fun _ => hw.mono h.bel.size, fun e _ => ?_⟩
  rw [e4] at e
  have h1 := (hw.lt _ rfl).1
  have h2 := ((h.l e).lt _ rfl).2
  simp only at h1 h2 ⊢
  omega
theorem ranU_few {N : Nat} {P : List Int} (h : ∀ z ∈ P, 0 ≤ z ∧ z < (N : Int)) : (ranU N P).length ≤ N ∧ ∀ z ∈ ranU N P, 0 ≤ z ∧ z < (N : Int) := by
  have h2 : ∀ z ∈ ranU N P, 0 ≤ z ∧ z < (N : Int) := fun z hz => by
    rcases wnU_mem.1 hz with h1 | h1
    · rcases wnU_mem.1 h1 with h2 | h2
      · cases h2
      · exact h z h2
    · exact fallU_mem.1 h1
  exact ⟨nodup_few (wnU_nodup (wnU_nodup List.nodup_nil)) h2, h2⟩
theorem ranU_all {N : Nat} {P : List Int} {z : Int} (h : 0 ≤ z ∧ z < (N : Int)) : z ∈ ranU N P := wnU_mem.2 (.inr (fallU_mem.2 h))
def BegE (n : NN) (R P : List Int) (w : World) (e : Ending) (w' : World) : Prop := ∃ B E K0 K gL gO cL cO, e = .returned (.tuple #[.pointer (some ⟨K0, 0, none⟩), .int .i64 0]) ∧ RnU B E w' K0 K gL gO cL cO n (startT n) (List.replicate n.nodes.toNat 0) R (ranU n.nodes.toNat P) ∧ w.heap.size ≤ B ∧ Below w.heap.size w w'
set_option maxRecDepth 100000 in
set_option maxHeartbeats 8000000 in
theorem begun_any (n : NN) (a : Option Addr) (c : Nat) (R : List Int) (r : Option Addr) (rc : Nat) (P : List Int) (p : Option Addr) (pc : Nat) (w : World) (h : AtN w a n.arcs) (hna : a = none → n.arcs.length = 0 ∧ c = 0) (hr : At w r R) (hrn : r = none → R.length = 0 ∧ rc = 0) (hp : At w p P) (hP : P.length ≤ 4611686018427387904) (hg : GoodU n R) (hPn : arnU n P = true) :
    Calls Try.prog 20 #[.agg #[.int .i64 n.nodes, .slice a n.arcs.length c], .slice r R.length rc, .slice p P.length pc] w (BegE n R P w) := by
  obtain ⟨RE, hRE⟩ : ∃ Q, BegE n R P w = Q := ⟨_, rfl⟩
  rw [hRE]
  have HRE := hiddenN hRE
  have hS := check_sound hg.check
  have hnn := nodes_nat hS
  have hmost := hS.most
  have b0 := (Below.refl w.heap.size w).alloc (Nat.le_refl _) (.cells #[.int .i64 n.nodes, .slice a n.arcs.length c] 24)
  have X0 := hiddenN (blkA_new 24 w #[.int .i64 n.nodes, .slice a n.arcs.length c])
  have B0 := hiddenN b0
  have hRl := hg.len
  obtain ⟨N, hN⟩ : ∃ N, n.nodes.toNat = N := ⟨_, rfl⟩
  have hPi : ∀ z ∈ P, 0 ≤ z ∧ z < (N : Int) := fun z hz => by have := node_in (arnU_iff.1 hPn z hz); omega
  have NW : Hid (Calls Try.prog 35 #[.agg #[.int .i64 n.nodes, .slice a n.arcs.length c]] (w.alloc (.cells #[.int .i64 n.nodes, .slice a n.arcs.length c] 24)) fun e w' => ∃ K E, e = .returned (.tuple #[.pointer (some ⟨K, 0, none⟩), .int .i64 0]) ∧ StE (w.alloc (.cells #[.int .i64 n.nodes, .slice a n.arcs.length c] 24)).heap.size E w' K n (startT n) (List.replicate n.nodes.toNat 0) ∧ Below (w.alloc (.cells #[.int .i64 n.nodes, .slice a n.arcs.length c] 24)).heap.size (w.alloc (.cells #[.int .i64 n.nodes, .slice a n.arcs.length c] 24)) w') := by
    refine (newS_any n a c _ (h.below b0) (by omega) hna).mono ?_
    intro e w' hh
    unfold NewE at hh
    rw [if_pos hg.check] at hh
    exact hh
  have HR := hiddenN (hr.below b0)
  have HP := hiddenN (hp.below b0)
  have CLa : Hid (∀ (W : World), At W r R → Calls Try.prog 36 #[.slice r R.length rc] W fun e w' => ∃ g cc, e = .returned (.slice (some ⟨g, 0, none⟩) R.length cc) ∧ CapR W.heap.size w' (some ⟨g, 0, none⟩) cc R ∧ Below W.heap.size W w') := fun W hW => by
    refine (cloneN_any r R R.length rc W rfl (by omega) hrn hW).mono ?_
    rintro e w' ⟨a', cap', rfl, h1, h2⟩
    obtain ⟨g, rfl, -, -⟩ := h1.there (by omega)
    exact ⟨g, cap', rfl, h1, h2⟩
  have RKa : Hid (∀ (W : World), At W p P → Calls Try.prog 37 #[.int .i64 (N : Int), .slice p P.length pc] W fun e w' => ∃ g cc, e = .returned (.slice (some ⟨g, 0, none⟩) (ranU N P).length cc) ∧ CapR W.heap.size w' (some ⟨g, 0, none⟩) cc (ranU N P) ∧ Below W.heap.size W w') := fun W hW => by
    refine (ranked_any P p P.length pc N W rfl hP (by omega) hPi hW).mono ?_
    rintro e w' ⟨a', cap', rfl, h1, h2⟩
    obtain ⟨g, rfl, -, -⟩ := h1.there (List.length_pos_iff.2 fun e => by
      have := ranU_all (N := N) (P := P) (z := 0) (by omega)
      rw [e] at this; cases this)
    exact ⟨g, cap', rfl, h1, h2⟩
  have HNd : Hid ((ranU N P).length ≤ 32 ∧ ∀ v ∈ ranU N P, nodeB n v = true) := ⟨Nat.le_trans (ranU_few hPi).1 (by omega), fun v hv => decide_eq_true (by have := (ranU_few hPi).2 v hv; omega)⟩
  have HRl : Hid (R.length = n.nodes.toNat) := hRl
  have HO : Hid (ranU n.nodes.toNat P = ranU N P) := by show _ = _; rw [hN]
  have HL : Hid (R.length = N) := by show _ = _; rw [hRl, hN]
  have y0 := X0.out.cell (k := 0) rfl
  have y1 := X0.out.cell (k := 1) rfl
  simp only [List.getElem_toArray, List.getElem_cons_zero, List.getElem_cons_succ] at y0 y1
  have hn1 : Hid (n.nodes = (N : Int)) := by show _ = _; omega
  rw [HL.out]
  clear b0 hr hp hrn h hna hRE hPi hPn hRl hN hnn
  go_enter Try.func20, Try.ntmps20
  go_upto_region 1 with fail
  generalize hW0 : w.alloc (.cells #[.int .i64 n.nodes, .slice a n.arcs.length c] 24) = W0 at *
  go_upto_region 4 with (go_at_call 35; (with_reducible refine NW.out.mono ?_); rintro e V1 ⟨K, E, rfl, s1, b1⟩; have S1 := hiddenN s1; have B1 := hiddenN b1; clear s1 b1)
  have y0 := (X0.out.below B1.out).cell (k := 0) rfl
  simp only [List.getElem_toArray, List.getElem_cons_zero] at y0
  have R1 := hiddenN (HR.out.below B1.out)
  have P1 := hiddenN (HP.out.below B1.out)
  have CL : Hid (∀ (W : World), Below V1.heap.size V1 W → Calls Try.prog 36 #[.slice r N rc] W fun e w' => ∃ g cc, e = .returned (.slice (some ⟨g, 0, none⟩) N cc) ∧ CapR W.heap.size w' (some ⟨g, 0, none⟩) cc R ∧ Below W.heap.size W w') := fun W hW => by
    have := CLa.out W (R1.out.below hW)
    rw [HL.out] at this
    exact this
  have RK := hiddenN (fun (W : World) (hW : Below V1.heap.size V1 W) => RKa.out W (P1.out.below hW))
  rw [hn1.out] at y0
  generalize hO : ranU N P = O at *
  generalize hM : O.length = M at *
  generalize P.length = len at *
  obtain ⟨xb, hxb⟩ : ∃ q, w.heap.size = q := ⟨_, rfl⟩
  rw [hxb] at y0 ⊢
  clear NW HR HP CLa RKa R1 P1
  refine wp_region_gho [2, 6] (fun y d i u z => match i with
      | 0 => z = .pointer (some ⟨K, 0, none⟩)
      | 1 => z = .slice r N rc
      | 2 => (d 2 = true ∧ z = .slice (some ⟨y.gL, 0, none⟩) N y.cL)
      | 3 => z = .pointer (some ⟨xb, 0, none⟩)
      | 4 => z = .int .i64 (N : Int)
      | 5 => z = .slice p len pc
      | 6 => (d 6 = true ∧ z = .slice (some ⟨y.gO, 0, none⟩) M y.cO)
      | 7 => ((d 2 = true ∧ d 6 = true) ∧ z = .agg #[.pointer (some ⟨K, 0, none⟩), .slice (some ⟨y.gL, 0, none⟩) N y.cL, .slice (some ⟨y.gO, 0, none⟩) M y.cO])
      | 8 => ((d 2 = true ∧ d 6 = true) ∧ ∃ K0, z = .pointer (some ⟨K0, 0, none⟩) ∧ BlkA 84 K0 u #[.pointer (some ⟨K, 0, none⟩), .slice (some ⟨y.gL, 0, none⟩) N y.cL, .slice (some ⟨y.gO, 0, none⟩) M y.cO] ∧ V1.heap.size ≤ K0 ∧ K0 ≠ y.gL ∧ K0 ≠ y.gO)
      | 9 => ((d 2 = true ∧ d 6 = true) ∧ ∃ K0, z = .pointer (some ⟨K0, 0, none⟩) ∧ BlkA 84 K0 u #[.pointer (some ⟨K, 0, none⟩), .slice (some ⟨y.gL, 0, none⟩) N y.cL, .slice (some ⟨y.gO, 0, none⟩) M y.cO] ∧ V1.heap.size ≤ K0 ∧ K0 ≠ y.gL ∧ K0 ≠ y.gO)
      | 10 => z = .int .i64 0
      | _ => True) (fun y d u => CU V1 R O y d u) (⟨0, 0, 0, 0⟩) (by kernel_rfl) (by kernel_rfl) (by kernel_rfl) ?_ ?_ ?_ ?_ ?_ ?_ (by kernel_rfl)
  · intro y d i w v w' h hb
    match i, h with
    | 0, h => exact h
    | 1, h => exact h
    | 2, h => exact h
    | 3, h => exact h
    | 4, h => exact h
    | 5, h => exact h
    | 6, h => exact h
    | 7, h => exact h
    | 8, h => exact ⟨h.1, by obtain ⟨K0, h1, h2, h3⟩ := h.2; exact ⟨K0, h1, h2.below hb, h3⟩⟩
    | 9, h => exact ⟨h.1, by obtain ⟨K0, h1, h2, h3⟩ := h.2; exact ⟨K0, h1, h2.below hb, h3⟩⟩
    | 10, h => exact h
    | _ + 11, _ => trivial
  · intro y d u u' h hb
    exact CU.later h hb
  · exact CU.start _ _ _ _
  · intro y d i o ρ w' hm ho hf hg hC hcs hfs hfr hdep
    match i, hm, ho, hf, hg, hfr, hdep with
    | 0, _, ho, hf, hg, hfr, hdep =>
      simp only [gTA, gCZ, gSI] at ho
      subst ho
      refine ⟨fun _ => ?_, fun hw => absurd (show true = false from hw) (by decide)⟩
      have ts : ρ (.tmp 8) = .pointer (some ⟨K, 0, none⟩) := hfr 8 (by kernel_rfl)
      simp [go_sem, ts]
      exact ⟨Below.refl _ _, rfl⟩
    | 1, _, ho, hf, hg, hfr, hdep =>
      simp only [gTA, gCZ, gCS, gSI] at ho
      subst ho
      refine ⟨fun _ => ?_, fun hw => absurd (show true = false from hw) (by decide)⟩
      have ts : ρ (.tmp 1) = .slice r N rc := hfr 1 (by kernel_rfl)
      simp [go_sem, ts]
      exact ⟨Below.refl _ _, rfl⟩
    | 2, hm, _, _, _, _, _ => exact absurd hm (by decide)
    | 3, _, ho, hf, hg, hfr, hdep =>
      simp only [gTA, gCZ, gCS, gSI] at ho
      subst ho
      refine ⟨fun _ => ?_, fun hw => absurd (show true = false from hw) (by decide)⟩
      have ts : ρ (.tmp 3) = .pointer (some ⟨xb, 0, none⟩) := hfr 3 (by kernel_rfl)
      simp [go_sem, ts]
      exact ⟨Below.refl _ _, rfl⟩
    | 4, _, ho, hf, hg, hfr, hdep =>
      simp only [gTA, gCZ, gCS, gSI] at ho
      subst ho
      refine ⟨fun _ => ?_, fun hw => absurd (show true = false from hw) (by decide)⟩
      have k0 := cellN_later hC.bel y0
      have d0 : ρ (.tmp 21) = .pointer (some ⟨xb, 0, none⟩) := hdep 3 21 (by kernel_rfl) (by kernel_rfl)
      simp [go_sem, d0, k0]
      exact ⟨Below.refl _ _, rfl⟩
    | 5, _, ho, hf, hg, hfr, hdep =>
      simp only [gTA, gCZ, gCS, gSI] at ho
      subst ho
      refine ⟨fun _ => ?_, fun hw => absurd (show true = false from hw) (by decide)⟩
      have ts : ρ (.tmp 2) = .slice p len pc := hfr 2 (by kernel_rfl)
      simp [go_sem, ts]
      exact ⟨Below.refl _ _, rfl⟩
    | 6, hm, _, _, _, _, _ => exact absurd hm (by decide)
    | 7, _, ho, hf, hg, hfr, hdep =>
      simp only [gTA, gCZ, gCS, gSI] at ho
      subst ho
      refine ⟨fun _ => ?_, fun hw => absurd (show true = false from hw) (by decide)⟩
      have t0 : ρ (.tmp 18) = .pointer (some ⟨K, 0, none⟩) := hdep 0 18 (by kernel_rfl) (by kernel_rfl)
      obtain ⟨q1, t1⟩ : d 2 = true ∧ ρ (.tmp 20) = .slice (some ⟨y.gL, 0, none⟩) N y.cL := hdep 2 20 (by kernel_rfl) (by kernel_rfl)
      obtain ⟨q4, t4⟩ : d 6 = true ∧ ρ (.tmp 24) = .slice (some ⟨y.gO, 0, none⟩) M y.cO := hdep 6 24 (by kernel_rfl) (by kernel_rfl)
      simp [go_sem, t0, t1, t4]
      exact ⟨Below.refl _ _, ⟨q1, q4⟩, rfl⟩
    | 8, _, ho, hf, hg, hfr, hdep =>
      simp only [gTA, gCZ, gCS, gSI] at ho
      subst ho
      refine ⟨fun _ => ?_, fun hw => absurd (show true = false from hw) (by decide)⟩
      obtain ⟨qq, t5⟩ : (d 2 = true ∧ d 6 = true) ∧ ρ (.tmp 25) = .agg #[.pointer (some ⟨K, 0, none⟩), .slice (some ⟨y.gL, 0, none⟩) N y.cL, .slice (some ⟨y.gO, 0, none⟩) M y.cO] := hdep 7 25 (by kernel_rfl) (by kernel_rfl)
      simp [go_sem, t5]
      exact ⟨(Below.refl _ _).alloc (Nat.le_refl _) _, qq, w'.heap.size, rfl, blkA_new 84 w' _, hC.bel.size, by have := ((hC.l qq.1).lt _ rfl).2; simp only at this; omega, by have := ((hC.o qq.2).lt _ rfl).2; simp only at this; omega⟩
    | 9, _, ho, hf, hg, hfr, hdep =>
      simp only [gTA, gCZ, gCS, gSI] at ho
      subst ho
      refine ⟨fun _ => ?_, fun hw => absurd (show true = false from hw) (by decide)⟩
      obtain ⟨qq, K0, t6, rest⟩ : (d 2 = true ∧ d 6 = true) ∧ ∃ K0, ρ (.tmp 26) = .pointer (some ⟨K0, 0, none⟩) ∧ BlkA 84 K0 w' #[.pointer (some ⟨K, 0, none⟩), .slice (some ⟨y.gL, 0, none⟩) N y.cL, .slice (some ⟨y.gO, 0, none⟩) M y.cO] ∧ V1.heap.size ≤ K0 ∧ K0 ≠ y.gL ∧ K0 ≠ y.gO := hdep 8 26 (by kernel_rfl) (by kernel_rfl)
      simp [go_sem, t6]
      exact ⟨Below.refl _ _, qq, K0, rfl, rest⟩
    | 10, _, ho, hf, hg, hfr, hdep =>
      simp only [gTA, gCZ, gCS, gSI] at ho
      subst ho
      refine ⟨fun _ => ?_, fun hw => absurd (show true = false from hw) (by decide)⟩
      simp [go_sem, hcs]
      exact ⟨Below.refl _ _, rfl⟩
    | n + 11, _, ho, _, _, _, _ => simp at ho
  · intro y d i o ρ w' hm ho h0 hf hg hC hcs hfs hfr hdep
    match i, hm, ho, h0, hf, hg, hfr, hdep with
    | 0, hm, _, _, _, _, _, _ => exact absurd hm (by decide)
    | 1, hm, _, _, _, _, _, _ => exact absurd hm (by decide)
    | 2, _, ho, h0, hf, hg, hfr, hdep =>
      simp only [gTA, gCZ, gCS, gSI] at ho
      subst ho
      have t0 : ρ (.tmp 19) = .slice r N rc := hdep 1 19 (by kernel_rfl) (by kernel_rfl)
      have CLw := CL.out w' hC.bel
      refine ⟨rfl, ?_⟩
      simp [go_sem, markUpon, t0, hfs]
      refine CLw.mono ?_
      rintro e w'' ⟨g, cc, rfl, q1, q2⟩
      refine ⟨_, rfl, ⟨g, cc, y.gO, y.cO⟩, hC.m2 q1 q2, ⟨doneAt_eq _ _, rfl⟩, ?_⟩
      intro j t hj hs
      match j, hs with
      | 0, hs => exact hs
      | 1, hs => exact hs
      | 2, hs => exact absurd hs.1 (by rw [h0]; decide)
      | 3, hs => exact hs
      | 4, hs => exact hs
      | 5, hs => exact hs
      | 6, hs => exact ⟨(doneAt_ne d (by decide)).trans hs.1, hs.2⟩
      | 7, hs => exact absurd hs.1.1 (by rw [h0]; decide)
      | 8, hs => exact absurd hs.1.1 (by rw [h0]; decide)
      | 9, hs => exact absurd hs.1.1 (by rw [h0]; decide)
      | 10, hs => exact hs
      | _ + 11, _ => trivial
    | 3, hm, _, _, _, _, _, _ => exact absurd hm (by decide)
    | 4, hm, _, _, _, _, _, _ => exact absurd hm (by decide)
    | 5, hm, _, _, _, _, _, _ => exact absurd hm (by decide)
    | 6, _, ho, h0, hf, hg, hfr, hdep =>
      simp only [gTA, gCZ, gCS, gSI] at ho
      subst ho
      have t0 : ρ (.tmp 22) = .int .i64 (N : Int) := hdep 4 22 (by kernel_rfl) (by kernel_rfl)
      have t1 : ρ (.tmp 23) = .slice p len pc := hdep 5 23 (by kernel_rfl) (by kernel_rfl)
      have CLw := RK.out w' hC.bel
      refine ⟨rfl, ?_⟩
      simp [go_sem, markUpon, t0, t1, hfs]
      refine CLw.mono ?_
      rintro e w'' ⟨g, cc, rfl, q1, q2⟩
      refine ⟨_, rfl, ⟨y.gL, y.cL, g, cc⟩, hC.m6 q1 q2, ⟨doneAt_eq _ _, rfl⟩, ?_⟩
      intro j t hj hs
      match j, hs with
      | 0, hs => exact hs
      | 1, hs => exact hs
      | 2, hs => exact ⟨(doneAt_ne d (by decide)).trans hs.1, hs.2⟩
      | 3, hs => exact hs
      | 4, hs => exact hs
      | 5, hs => exact hs
      | 6, hs => exact absurd hs.1 (by rw [h0]; decide)
      | 7, hs => exact absurd hs.1.2 (by rw [h0]; decide)
      | 8, hs => exact absurd hs.1.2 (by rw [h0]; decide)
      | 9, hs => exact absurd hs.1.2 (by rw [h0]; decide)
      | 10, hs => exact hs
      | _ + 11, _ => trivial
    | 7, hm, _, _, _, _, _, _ => exact absurd hm (by decide)
    | 8, hm, _, _, _, _, _, _ => exact absurd hm (by decide)
    | 9, hm, _, _, _, _, _, _ => exact absurd hm (by decide)
    | 10, hm, _, _, _, _, _, _ => exact absurd hm (by decide)
    | n + 11, _, ho, _, _, _, _, _ => simp at ho
  · intro y9 V w9 hC9 hS
    obtain ⟨-, K0, e9, k1, k2, k3, k4⟩ := hS 9 (by decide) (by intro h; cases h)
    have e10 : V 10 = .int .i64 0 := hS 10 (by decide) (by intro h; cases h)
    simp only [puts, e9, e10]
    simp only [Act.put, List.setIfInBounds_toArray, List.set_cons_zero, List.set_cons_succ]
    clear hS e9 e10
    have hC := hC9
    have G9 := hiddenN hC
    have Q9 : Hid (RnU W0.heap.size E w9 K0 K y9.gL y9.gO y9.cL y9.cO n (startT n) (List.replicate n.nodes.toNat 0) R O) := by
      have hlow := S1.out.low.2
      refine ⟨S1.out.below hC.bel, ?_, (hC.l rfl).mono hlow, (hC.o rfl).mono hlow, by omega, k3, k4, hC.dis rfl rfl, HRl.out, by rw [hM]; exact HNd.out.1, HNd.out.2⟩
      rw [HL.out, hM]
      exact k1
    have B9 : Hid (Below w.heap.size w w9) := (B0.out.trans (B1.out.mono B0.out.size)).trans (hC.bel.mono (Nat.le_trans B0.out.size B1.out.size))
    clear hC hC9 k1 k2 k3 k4 G9
    go_wp2
    rw [← HRE.out]
    refine ⟨W0.heap.size, E, K0, K, y9.gL, y9.gO, y9.cL, y9.cO, rfl, ?_, B0.out.size, B9.out⟩
    rw [HO.out]
    exact Q9.out
theorem err_zero {n : NN} {R P : List Int} (h : errU n R P = 0) : hoB n R = true ∧ sumU R ≤ 2048 ∧ arnU n P = true := by
  unfold errU at h
  split at h
  · split at h
    · split at h
      · cases h
      · split at h
        · rename_i h1 h2 h3 h4; exact ⟨h2, by omega, h4⟩
        · cases h
    · cases h
  · rename_i h1; exact absurd h h1
theorem nth_rep0 (N k : Nat) : nth (List.replicate N (0 : Int)) k = 0 := by
  unfold nth
  rw [List.getD_eq_getElem?_getD]
  by_cases hk : k < N
  · rw [List.getElem?_replicate, if_pos hk]; rfl
  · rw [List.getElem?_replicate, if_neg hk]; rfl
def finU (n : NN) (R P : List Int) : List Int × List Int × List Int := runU n R (ranU n.nodes.toNat P) 2048 (startT n) (List.replicate n.nodes.toNat 0)
def bloU (n : NN) (R P : List Int) : List BK := blkU n R (finU n R P).2.1 (finU n R P).2.2 n.nodes.toNat
def lisU (n : NN) (R P : List Int) : List Int := if errU n R P = 0 then (if bloU n R P = [] then (finU n R P).1 else []) else []
def stkU (n : NN) (R P : List Int) : List BK := if errU n R P = 0 then bloU n R P else []
structure FinU (n : NN) (R P : List Int) : Prop where
  good : GoodU n R
  sound : SoundN n
  eq : EqN n ((finU n R P).1.length : Int) (finU n R P).2.1 (finU n R P).2.2
  top : LeU n (finU n R P).2.2 R
  fires : firesN n (finU n R P).1 (startT n) (List.replicate n.nodes.toNat 0) = ((finU n R P).1.length, (finU n R P).2)
  sum : sumU (finU n R P).2.2 = ((finU n R P).1.length : Int)
  node : ∀ z ∈ (finU n R P).1, nodeB n z = true
  fin : EndU n R (finU n R P).2.1 (finU n R P).2.2
  few : sumU R ≤ 2048
theorem start_mid {n : NN} {R P : List Int} (h : errU n R P = 0) : MidU n R (ranU n.nodes.toNat P) 2048 (startT n) (List.replicate n.nodes.toNat 0) [] (startT n) (List.replicate n.nodes.toNat 0) R 0 2048 := by
  obtain ⟨h1, h2, h3⟩ := err_zero h
  have hg := good_of h1
  have hS := check_sound hg.check
  refine ⟨fun k hk => by rw [nth_rep0]; omega, start_eq hS rfl, fun k hk => by rw [nth_rep0]; have := hg.win k (by rw [hg.len]; exact hk); omega, by rw [sum_zero]; show sumU R - 0 ≤ 2048; omega, by decide, rfl, rfl⟩
theorem fin_of {n : NN} {R P : List Int} (h : errU n R P = 0) : FinU n R P := by
  obtain ⟨h1, h2, h3⟩ := err_zero h
  have hg := good_of h1
  have hS := check_sound hg.check
  have hm := start_mid h
  have e := run_ends (R := R) (O := ranU n.nodes.toNat P) hS 2048 _ _ 0 hm.eq (by decide)
  have hnn := nodes_nat hS
  refine ⟨hg, hS, by have := e.eq; rwa [Int.zero_add] at this, e.top hm.top, e.fires, by have := e.sum; rwa [sum_zero, Int.zero_add] at this, e.node, ?_, h2⟩
  exact run_end hS hg.len (fun v hv => ranU_all (by have := node_in hv; omega)) 2048 _ _ 0 hm.eq (by decide) hm.top hm.sum
def RunE (n : NN) (R P : List Int) (w : World) (e : Ending) (w' : World) : Prop := ∃ d1 c1 d2 c2, e = .returned (.tuple #[.agg #[.slice d1 (lisU n R P).length c1, .slice d2 (stkU n R P).length c2], .int .i64 (errU n R P)]) ∧ CapR w.heap.size w' d1 c1 (lisU n R P) ∧ CapB w.heap.size w' d2 c2 (stkU n R P) ∧ Below w.heap.size w w'
set_option maxRecDepth 100000 in
set_option maxHeartbeats 8000000 in
theorem simRun_any (n : NN) (a : Option Addr) (c : Nat) (R : List Int) (r : Option Addr) (rc : Nat) (P : List Int) (p : Option Addr) (pc : Nat) (w : World) (h : AtN w a n.arcs) (hl : n.arcs.length ≤ 4611686018427387904) (hna : a = none → n.arcs.length = 0 ∧ c = 0) (hr : At w r R) (hR : R.length ≤ 4611686018427387904) (hrn : r = none → R.length = 0 ∧ rc = 0) (hp : At w p P) (hP : P.length ≤ 4611686018427387904) :
    Calls Try.prog 7 #[.agg #[.int .i64 n.nodes, .slice a n.arcs.length c], .slice r R.length rc, .slice p P.length pc] w (RunE n R P w) := by
  have b0 := (Below.refl w.heap.size w).alloc (Nat.le_refl _) (.cells #[.int .i64 n.nodes, .slice a n.arcs.length c] 24)
  have b1 := (Below.refl (w.alloc (.cells #[.int .i64 n.nodes, .slice a n.arcs.length c] 24)).heap.size (w.alloc (.cells #[.int .i64 n.nodes, .slice a n.arcs.length c] 24))).alloc (Nat.le_refl _) (.cells #[.slice none 0 0, .slice none 0 0] 29)
  have hs0 : (w.alloc (.cells #[.int .i64 n.nodes, .slice a n.arcs.length c] 24)).heap.size = w.heap.size + 1 := World.size_alloc _ _
  have b2 := b0.trans (b1.mono b0.size)
  have XN := hiddenN ((blkA_new 24 w #[.int .i64 n.nodes, .slice a n.arcs.length c]).below b1)
  have XB := hiddenN (blkA_new 29 (w.alloc (.cells #[.int .i64 n.nodes, .slice a n.arcs.length c] 24)) #[.slice none 0 0, .slice none 0 0])
  rw [hs0] at XB
  have L0 := hiddenN b2
  have HA := hiddenN (h.below b2)
  have HR := hiddenN (hr.below b2)
  have HP := hiddenN (hp.below b2)
  have CK := hiddenN (checkU_any n a c R r rc P p pc _ (h.below b2) hl (hr.below b2) hR (hp.below b2) hP)
  clear b0 b1 b2 hs0 h hr hp
  obtain ⟨RE, hRE⟩ : ∃ Q, RunE n R P w = Q := ⟨_, rfl⟩
  rw [hRE]
  have HRE := hiddenN hRE
  clear hRE
  obtain ⟨nb, hnb⟩ : ∃ q, w.heap.size = q := ⟨_, rfl⟩
  have HNB := hiddenN hnb
  have GOAL : Hid (∀ (x : Int) (d1 : Option Addr) (n1 c1 : Nat) (d2 : Option Addr) (n2 c2 : Nat) (W : World), errU n R P = x → n1 = (lisU n R P).length → n2 = (stkU n R P).length → CapR nb W d1 c1 (lisU n R P) → CapB nb W d2 c2 (stkU n R P) → Below nb w W → RE (.returned (.tuple #[.agg #[.slice d1 n1 c1, .slice d2 n2 c2], .int .i64 x])) W) := fun x d1 n1 c1 d2 n2 c2 W e1 e2 e3 g1 g2 g3 => by
    rw [← HRE.out]
    subst e1
    subst e2
    subst e3
    refine ⟨d1, c1, d2, c2, rfl, ?_, ?_, ?_⟩
    · rw [HNB.out]; exact g1
    · rw [HNB.out]; exact g2
    · rw [HNB.out]; exact g3
  rw [hnb] at XN XB L0
  clear HRE hnb
  by_cases he : errU n R P = 0
  · obtain ⟨e1, e2, e3⟩ := err_zero he
    have hg := good_of e1
    have hF := fin_of he
    have hM := start_mid he
    have hS := hF.sound
    have hnn := nodes_nat hS
    have VL : Hid (bloU n R P = [] → lisU n R P = (finU n R P).1 ∧ stkU n R P = []) := fun hb => by unfold lisU stkU; rw [if_pos he, if_pos hb, if_pos he, hb]; exact ⟨rfl, rfl⟩
    have VS : Hid (bloU n R P ≠ [] → lisU n R P = [] ∧ stkU n R P = bloU n R P) := fun hb => by unfold lisU stkU; rw [if_pos he, if_neg hb, if_pos he]; exact ⟨rfl, rfl⟩
    have BG := hiddenN (fun (U : World) (g1 : AtN U a n.arcs) (g2 : At U r R) (g3 : At U p P) => begun_any n a c R r rc P p pc U g1 hna g2 hrn g3 hP hg e3)
    have FA : Hid (∀ (U : World) (B E K0 K gL gO cL cO : Nat), RnU B E U K0 K gL gO cL cO n (startT n) (List.replicate n.nodes.toNat 0) R (ranU n.nodes.toNat P) → Calls Try.prog 21 #[.pointer (some ⟨K0, 0, none⟩)] U fun e w' => ∃ d c L1, e = .returned (.slice d (finU n R P).1.length c) ∧ CapR U.heap.size w' d c (finU n R P).1 ∧ RnU B E w' K0 K gL gO cL cO n (finU n R P).2.1 (finU n R P).2.2 L1 (ranU n.nodes.toNat P) ∧ LfU n R (finU n R P).2.2 L1 ∧ Below B U w') := fun U B E K0 K gL gO cL cO hr => fireAll_any U K0 K gL gO cL cO n _ _ R R _ 2048 0 hr hS hg.len (fun k hk => (hg.win k (by rw [hg.len]; exact hk)).2) (by decide) hM
    have BL : Hid (∀ (U : World) (B E K0 K gL gO cL cO : Nat) (L1 : List Int), RnU B E U K0 K gL gO cL cO n (finU n R P).2.1 (finU n R P).2.2 L1 (ranU n.nodes.toNat P) → LfU n R (finU n R P).2.2 L1 → Calls Try.prog 22 #[.pointer (some ⟨K0, 0, none⟩)] U fun e w' => ∃ d c, e = .returned (.slice d (bloU n R P).length c) ∧ CapB U.heap.size w' d c (bloU n R P) ∧ Below U.heap.size U w') := fun U B E K0 K gL gO cL cO L1 hr hl => blocksU_any U K0 K gL gO cL cO n _ _ L1 R _ hr hl hS hF.eq.lF
    have HE := hiddenN he
    rw [he] at CK
    have hZl : (finU n R P).1.length ≤ 1000000 := by
      have h1 := hF.sum
      have h2 := sum_le (F := (finU n R P).2.2) (R := R) (by rw [hF.eq.lF, hg.len]) (fun k hk => hF.top k (by rw [← hF.eq.lF]; exact hk))
      omega
    have hBl : (bloU n R P).length ≤ 32 := by unfold bloU; exact Nat.le_trans (blkU_len ..) (by omega)
    unfold BegE at BG
    clear hg hF hM hS he e1 e2 e3 hnn hrn hna
    go_enter Try.func7, Try.ntmps7
    go_upto_region 1 with fail
    generalize (w.alloc (.cells #[.int .i64 n.nodes, .slice a n.arcs.length c] 24)).alloc (.cells #[.slice none 0 0, .slice none 0 0] 29) = W0 at *
    rw [HNB.out]
    have y0 := XN.out.cell (k := 0) rfl
    have y1 := XN.out.cell (k := 1) rfl
    simp only [List.getElem_toArray, List.getElem_cons_zero, List.getElem_cons_succ] at y0 y1
    go_upto_region 4 with (go_at_call 19; (with_reducible refine CK.out.mono ?_); rintro e W1 ⟨rfl, b1⟩; have B1 := hiddenN b1; clear b1)
    have hw0 : nb ≤ W0.heap.size := by have := L0.out.size; have := HNB.out; omega
    have L1 := hiddenN (L0.out.trans (B1.out.mono hw0))
    have N1 := hiddenN (XN.out.below B1.out)
    have Y1 := hiddenN (XB.out.below B1.out)
    have BG1 := hiddenN (BG.out W1 (HA.out.below B1.out) (HR.out.below B1.out) (HP.out.below B1.out))
    have hw1 : nb ≤ W1.heap.size := Nat.le_trans hw0 B1.out.size
    clear CK XN XB HA HR HP L0 B1 y0 y1 BG hw0
    have y0 := N1.out.cell (k := 0) rfl
    have y1 := N1.out.cell (k := 1) rfl
    simp only [List.getElem_toArray, List.getElem_cons_zero, List.getElem_cons_succ] at y0 y1
    go_upto_region 7 with (go_at_call 20; (with_reducible refine BG1.out.mono ?_); rintro e W2 ⟨B, E, K0, K, gL, gO, cL, cO, rfl, hr2, hB2, b2⟩; have R2 := hiddenN hr2; have B2 := hiddenN b2; clear hr2 b2)
    have L2 := hiddenN (L1.out.trans (B2.out.mono hw1))
    have Y2 := hiddenN (Y1.out.below B2.out)
    have Y1L : Hid (nb + 1 < W1.heap.size) := Y1.out.lt
    have FA2 := hiddenN (FA.out W2 B E K0 K gL gO cL cO R2.out)
    have hw2 : nb ≤ W2.heap.size := Nat.le_trans hw1 B2.out.size
    have hW12 := B2.out.size
    clear BG1 N1 Y1 L1 y0 y1 FA
    go_upto_region 8 with (go_at_call 21; (with_reducible refine FA2.out.mono ?_); rintro e W3 ⟨d3, c3, LL, rfl, hc3, hr3, hl3, b3⟩; have C3 := hiddenN hc3; have R3 := hiddenN hr3; have B3 := hiddenN b3; have BL3 := hiddenN (BL.out W3 B E K0 K gL gO cL cO LL hr3 hl3); clear hc3 hr3 hl3 b3)
    have hwB : nb ≤ B := Nat.le_trans hw1 hB2
    have L3 := hiddenN (L2.out.trans (B3.out.mono hwB))
    have Y3 := hiddenN (Y2.out.keep (B3.out.block _ (Nat.lt_of_lt_of_le Y1L.out hB2)))
    have hw3 : nb ≤ W3.heap.size := Nat.le_trans hw2 B3.out.size
    have C3N : Hid (∀ x, d3 = some x → x.block ≠ nb + 1) := fun x hx => by have := (C3.out.lt x hx).1; have := Y1L.out; omega
    have C3m := hiddenN (C3.out.mono hw2)
    have hW23 := B3.out.size
    clear FA2 BL Y2 L2 C3 R2 B2
    by_cases hb : bloU n R P = []
    · obtain ⟨v1, v2⟩ := VL.out hb
      have V1 := hiddenN v1
      have V2 := hiddenN v2
      rw [hb] at BL3
      have BL4 : Hid (Calls Try.prog 22 #[.pointer (some ⟨K0, 0, none⟩)] W3 fun e w' => ∃ d c, e = .returned (.slice d 0 c) ∧ CapB W3.heap.size w' d c [] ∧ Below W3.heap.size W3 w') := BL3.out
      clear v1 v2 hb VL VS BL3 hBl
      generalize hZ : (finU n R P).1 = Z at *
      generalize hzl : Z.length = zl at *
      go_wp2_with (go_at_call 22; (with_reducible refine BL4.out.mono ?_); rintro e W4 ⟨d4, c4, rfl, -, b4⟩; have B4 := hiddenN b4; have Y4 := hiddenN (Y3.out.below b4); have L4 := hiddenN (L3.out.trans (b4.mono hw3)); have z0 := Y4.out.cell (k := 0) rfl; have z1 := Y4.out.cell (k := 1) rfl; simp only [List.getElem_toArray, List.getElem_cons_zero, List.getElem_cons_succ] at z0 z1; have f0 := Y4.out.frozen 0; have f1 := Y4.out.frozen 1; clear b4)
      have BU := hiddenN ((But.set W4 (nb + 1) 0 (.slice d3 zl c3)).trans (But.set _ (nb + 1) 1 (.slice none 0 0)))
      refine bodyPost_ret (v := .tuple #[.agg #[.slice d3 zl c3, .slice none 0 0], .int .i64 0]) (by simp [results, Try.results7, go_sem, z0, z1]) rfl ?_
      exact GOAL.out 0 d3 zl c3 none 0 0 _ HE.out (by rw [V1.out, hzl]) (by rw [V2.out]; rfl) (by rw [V1.out]; exact (C3m.out.later B4.out).keep (fun x hx => BU.out.block _ ((C3m.out.later B4.out).lt x hx).2 (C3N.out x hx))) (by rw [V2.out]; exact CapB.nil _ _) ((L4.out.setCell (by show nb ≤ nb + 1; omega) _).setCell (by show nb ≤ nb + 1; omega) _)
    · obtain ⟨v1, v2⟩ := VS.out hb
      have V1 := hiddenN v1
      have V2 := hiddenN v2
      have hpos : 0 < (bloU n R P).length := List.length_pos_iff.2 hb
      clear v1 v2 hb VL VS
      generalize bloU n R P = Q at *
      generalize hql : Q.length = ql at *
      have hposI : (ql : Int) > 0 := by omega
      generalize (finU n R P).1.length = zl at *
      go_wp2_with (go_at_call 22; (with_reducible refine BL3.out.mono ?_); rintro e W4 ⟨d4, c4, rfl, hc4, b4⟩; have C4 := hiddenN hc4; have B4 := hiddenN b4; have Y4 := hiddenN (Y3.out.below b4); have L4 := hiddenN (L3.out.trans (b4.mono hw3)); have z0 := Y4.out.cell (k := 0) rfl; have z1 := Y4.out.cell (k := 1) rfl; simp only [List.getElem_toArray, List.getElem_cons_zero, List.getElem_cons_succ] at z0 z1; have f0 := Y4.out.frozen 0; have f1 := Y4.out.frozen 1; clear b4 hc4)
      have BU := hiddenN ((But.set W4 (nb + 1) 0 (.slice none 0 0)).trans (But.set _ (nb + 1) 1 (.slice d4 ql c4)))
      have C4N : Hid (∀ x, d4 = some x → x.block ≠ nb + 1) := fun x hx => by have := (C4.out.lt x hx).1; have := Y1L.out; omega
      refine bodyPost_ret (v := .tuple #[.agg #[.slice none 0 0, .slice d4 ql c4], .int .i64 0]) (by simp [results, Try.results7, go_sem, z0, z1]) rfl ?_
      exact GOAL.out 0 none 0 0 d4 ql c4 _ HE.out (by rw [V1.out]; rfl) (by rw [V2.out, hql]) (by rw [V1.out]; exact CapR.nil _ _) (by rw [V2.out]; exact (C4.out.mono hw3).keep (fun x hx => BU.out.block _ (C4.out.lt x hx).2 (C4N.out x hx))) ((L4.out.setCell (by show nb ≤ nb + 1; omega) _).setCell (by show nb ≤ nb + 1; omega) _)
  · have V1 : Hid (lisU n R P = []) := by show _ = _; unfold lisU; rw [if_neg he]
    have V2 : Hid (stkU n R P = []) := by show _ = _; unfold stkU; rw [if_neg he]
    have hne : (errU n R P != 0) = true := by simpa using he
    clear hrn hna he
    have HE : Hid (errU n R P = errU n R P) := rfl
    generalize hx : errU n R P = x at CK hne
    go_enter Try.func7, Try.ntmps7
    go_upto_region 1 with fail
    generalize (w.alloc (.cells #[.int .i64 n.nodes, .slice a n.arcs.length c] 24)).alloc (.cells #[.slice none 0 0, .slice none 0 0] 29) = W0 at *
    rw [HNB.out]
    have hw0 : nb ≤ W0.heap.size := by have := L0.out.size; have := HNB.out; omega
    have y0 := XN.out.cell (k := 0) rfl
    have y1 := XN.out.cell (k := 1) rfl
    simp only [List.getElem_toArray, List.getElem_cons_zero, List.getElem_cons_succ] at y0 y1
    have HX := hiddenN hx
    clear hx
    go_wp2_with (go_at_call 19; (with_reducible refine CK.out.mono ?_); rintro e W1 ⟨rfl, b1⟩; have B1 := hiddenN b1; have Y4 := hiddenN (XB.out.below b1); have L4 := hiddenN (L0.out.trans (b1.mono hw0)); have z0 := Y4.out.cell (k := 0) rfl; have z1 := Y4.out.cell (k := 1) rfl; simp only [List.getElem_toArray, List.getElem_cons_zero, List.getElem_cons_succ] at z0 z1; have f0 := Y4.out.frozen 0; have f1 := Y4.out.frozen 1; clear b1)
    refine bodyPost_ret (v := .tuple #[.agg #[.slice none 0 0, .slice none 0 0], .int .i64 x]) (by simp [results, Try.results7, go_sem, z0, z1]) rfl ?_
    exact GOAL.out x none 0 0 none 0 0 _ HX.out (by rw [V1.out]; rfl) (by rw [V2.out]; rfl) (by rw [V1.out]; exact CapR.nil _ _) (by rw [V2.out]; exact CapB.nil _ _) ((L4.out.setCell (by show nb ≤ nb + 1; omega) _).setCell (by show nb ≤ nb + 1; omega) _)
theorem wakeU1 : errU netB1 [3, 2] [] = 0 ∧ lisU netB1 [3, 2] [] = [0, 0, 1, 0, 1] ∧ (stkU netB1 [3, 2] []).length = 0 := by decide +kernel
theorem wakeU2 : errU netA [1] [] = 0 ∧ lisU netA [1] [] = [] ∧ (stkU netA [1] []).map (fun b => (b.n, b.f, b.a)) = [(0, 0, 0)] := by decide +kernel
theorem at_alloc5 (U : World) (p q r s t : Int) : At (U.alloc (.cells #[.int .i64 p, .int .i64 q, .int .i64 r, .int .i64 s, .int .i64 t] 3)) (some ⟨U.heap.size, 0, none⟩) [p, q, r, s, t] := by
  refine .inr ⟨U.heap.size, 0, rfl, fun k hk => ?_⟩
  have b := blkA_new 3 U #[.int .i64 p, .int .i64 q, .int .i64 r, .int .i64 s, .int .i64 t]
  match k, hk with
  | 0, _ => exact b.cell rfl
  | 1, _ => exact b.cell rfl
  | 2, _ => exact b.cell rfl
  | 3, _ => exact b.cell rfl
  | 4, _ => exact b.cell rfl
theorem runW1 (U : World) (x y : Addr) (h : AtN U (some x) netB1.arcs) (hr : At U (some y) [3, 2]) : Calls Try.prog 7 #[.agg #[.int .i64 2, .slice (some x) 1 1], .slice (some y) 2 2, .slice none 0 0] U fun e w' => ∃ d1 c1 d2 c2, e = .returned (.tuple #[.agg #[.slice d1 5 c1, .slice d2 0 c2], .int .i64 0]) ∧ At w' d1 [0, 0, 1, 0, 1] ∧ Below U.heap.size U w' := by
  have := simRun_any netB1 (some x) 1 [3, 2] (some y) 2 [] none 0 U h (by decide) (fun e => by cases e) hr (by decide) (fun e => by cases e) (.inl rfl) (by decide)
  refine this.mono ?_
  rintro e w' ⟨d1, c1, d2, c2, he, h1, -, h3⟩
  obtain ⟨g1, g2, g3⟩ := wakeU1
  rw [g1, g2, g3] at he
  rw [g2] at h1
  exact ⟨d1, c1, d2, c2, he, h1.at, h3⟩
theorem stk_one : stkU netA [1] [] = [⟨0, 0, 0⟩] := by
  have h := wakeU2.2.2
  cases hs : stkU netA [1] [] with
  | nil => rw [hs] at h; cases h
  | cons b l =>
    rw [hs] at h
    cases l with
    | cons b2 l => simp at h
    | nil =>
      simp at h
      obtain ⟨h1, h2, h3⟩ := h
      cases b
      simp only at h1 h2 h3
      subst h1; subst h2; subst h3
      rfl
theorem runW2 (U : World) (x y : Addr) (h : AtN U (some x) netA.arcs) (hr : At U (some y) [1]) : Calls Try.prog 7 #[.agg #[.int .i64 1, .slice (some x) 1 1], .slice (some y) 1 1, .slice none 0 0] U fun e w' => ∃ d1 c1 g o c2, e = .returned (.tuple #[.agg #[.slice d1 0 c1, .slice (some ⟨g, o, none⟩) 1 c2], .int .i64 0]) ∧ (w'.cell? ⟨g, o, none⟩ = some (.int .i64 0) ∧ w'.cell? ⟨g, o + 1, none⟩ = some (.int .i64 0) ∧ w'.cell? ⟨g, o + 2, none⟩ = some (.int .i64 0)) ∧ Below U.heap.size U w' := by
  have := simRun_any netA (some x) 1 [1] (some y) 1 [] none 0 U h (by decide) (fun e => by cases e) hr (by decide) (fun e => by cases e) (.inl rfl) (by decide)
  refine this.mono ?_
  rintro e w' ⟨d1, c1, d2, c2, he, -, h2, h3⟩
  obtain ⟨g1, g2, -⟩ := wakeU2
  rw [g1, g2, stk_one] at he
  rw [stk_one] at h2
  rcases h2.at with e0 | ⟨g, o, rfl, hc⟩
  · cases e0
  · obtain ⟨c0, c1', c2'⟩ := hc 0 (by decide)
    exact ⟨d1, c1, g, o, c2, he, ⟨c0, c1', c2'⟩, h3⟩
set_option maxRecDepth 100000 in
set_option maxHeartbeats 8000000 in
theorem awake15 (w : World) : Calls Try.prog 11 #[] w fun e w' => e = .returned (.bool true) ∧ Below w.heap.size w w' := by
  have S1 := hiddenN runW1
  have S2 := hiddenN runW2
  have a1 := (Below.refl w.heap.size w).alloc (Nat.le_refl _) (.cells #[.int .i64 0, .int .i64 1, .int .i64 2, .int .i64 3, .int .i64 0] 64)
  have hs1 : (w.alloc (.cells #[.int .i64 0, .int .i64 1, .int .i64 2, .int .i64 3, .int .i64 0] 64)).heap.size = w.heap.size + 1 := World.size_alloc _ _
  have a2 := (Below.refl (w.alloc (.cells #[.int .i64 0, .int .i64 1, .int .i64 2, .int .i64 3, .int .i64 0] 64)).heap.size (w.alloc (.cells #[.int .i64 0, .int .i64 1, .int .i64 2, .int .i64 3, .int .i64 0] 64))).alloc (Nat.le_refl _) (.cells #[.int .i64 3, .int .i64 2] 3)
  have P1 := hiddenN ((show AtN (w.alloc (.cells #[.int .i64 0, .int .i64 1, .int .i64 2, .int .i64 3, .int .i64 0] 64)) (some ⟨w.heap.size, 0, none⟩) netB1.arcs from atN_one w ⟨0, 1, 2, 3, 0⟩).below a2)
  have Q1 := hiddenN (at_alloc2 (w.alloc (.cells #[.int .i64 0, .int .i64 1, .int .i64 2, .int .i64 3, .int .i64 0] 64)) 3 2)
  rw [hs1] at Q1
  have L1 := hiddenN (a1.trans (a2.mono a1.size))
  have C1 := hiddenN (S1.out _ _ _ P1.out Q1.out)
  clear a1 a2 hs1
  go_enter Try.func11, Try.ntmps11
  go_upto_region 2 with (go_at_call 7; (with_reducible refine C1.out.mono ?_); rintro e W1 ⟨d1, c1, d2, c2, rfl, h1, b1⟩; have R1 := hiddenN h1; have B1 := hiddenN (L1.out.trans (b1.mono L1.out.size)); clear h1 b1)
  clear S1 C1 P1 Q1 L1
  have X1 := hiddenN (blkA_new 29 W1 #[.slice d1 5 c1, .slice d2 0 c2])
  have b2 := (Below.refl W1.heap.size W1).alloc (Nat.le_refl _) (.cells #[.slice d1 5 c1, .slice d2 0 c2] 29)
  have R2 := hiddenN (R1.out.below b2)
  have B2 := hiddenN (B1.out.trans (b2.mono B1.out.size))
  obtain ⟨x1, hx1⟩ : ∃ q, W1.heap.size = q := ⟨_, rfl⟩
  rw [hx1] at X1 ⊢
  clear b2 R1 B1 hx1
  generalize W1.alloc (.cells #[.slice d1 5 c1, .slice d2 0 c2] 29) = W2 at *
  have a1 := (Below.refl W2.heap.size W2).alloc (Nat.le_refl _) (.cells #[.int .i64 0, .int .i64 0, .int .i64 1, .int .i64 1, .int .i64 0] 64)
  have hs1 : (W2.alloc (.cells #[.int .i64 0, .int .i64 0, .int .i64 1, .int .i64 1, .int .i64 0] 64)).heap.size = W2.heap.size + 1 := World.size_alloc _ _
  have a2 := (Below.refl (W2.alloc (.cells #[.int .i64 0, .int .i64 0, .int .i64 1, .int .i64 1, .int .i64 0] 64)).heap.size (W2.alloc (.cells #[.int .i64 0, .int .i64 0, .int .i64 1, .int .i64 1, .int .i64 0] 64))).alloc (Nat.le_refl _) (.cells #[.int .i64 1] 3)
  have P2 := hiddenN ((show AtN (W2.alloc (.cells #[.int .i64 0, .int .i64 0, .int .i64 1, .int .i64 1, .int .i64 0] 64)) (some ⟨W2.heap.size, 0, none⟩) netA.arcs from atN_one W2 ⟨0, 0, 1, 1, 0⟩).below a2)
  have Q2 := hiddenN (at_alloc1 (W2.alloc (.cells #[.int .i64 0, .int .i64 0, .int .i64 1, .int .i64 1, .int .i64 0] 64)) 1)
  rw [hs1] at Q2
  have L2 := hiddenN (a1.trans (a2.mono a1.size))
  have C2 := hiddenN (S2.out _ _ _ P2.out Q2.out)
  clear a1 a2 hs1
  go_upto_region 3 with (go_at_call 7; (with_reducible refine C2.out.mono ?_); rintro e W3 ⟨d3, c3, g, o, c4, rfl, h3, b3⟩; have R3 := hiddenN h3; have Y3 := hiddenN (L2.out.trans (b3.mono L2.out.size)); clear h3 b3)
  clear S2 C2 P2 Q2 L2
  have X3 := hiddenN (blkA_new 29 W3 #[.slice d3 0 c3, .slice (some ⟨g, o, none⟩) 1 c4])
  have b4 := (Below.refl W3.heap.size W3).alloc (Nat.le_refl _) (.cells #[.slice d3 0 c3, .slice (some ⟨g, o, none⟩) 1 c4] 29)
  have b5 := Y3.out.trans (b4.mono Y3.out.size)
  have R4 := hiddenN (R2.out.below b5)
  have B4 := hiddenN (B2.out.trans (b5.mono B2.out.size))
  have X4 := hiddenN (X1.out.below b5)
  have k0 := cellN_later b4 R3.out.1
  have k1 := cellN_later b4 R3.out.2.1
  have k2 := cellN_later b4 R3.out.2.2
  obtain ⟨x3, hx3⟩ : ∃ q, W3.heap.size = q := ⟨_, rfl⟩
  rw [hx3] at X3 ⊢
  clear b4 b5 R2 B2 R3 X1 hx3 Y3
  generalize W3.alloc (.cells #[.slice d3 0 c3, .slice (some ⟨g, o, none⟩) 1 c4] 29) = W4 at *
  have z0 := X4.out.cell (k := 0) rfl
  simp only [List.getElem_toArray, List.getElem_cons_zero] at z0
  have ba := (Below.refl W4.heap.size W4).alloc (Nat.le_refl _) (.cells #[.int .i64 0, .int .i64 0, .int .i64 1, .int .i64 0, .int .i64 1] 3)
  have SN : Hid (Calls Try.prog 23 #[.slice d1 5 c1, .slice (some ⟨W4.heap.size, 0, none⟩) 5 5] (W4.alloc (.cells #[.int .i64 0, .int .i64 0, .int .i64 1, .int .i64 0, .int .i64 1] 3)) fun e w' => e = .returned (.bool true) ∧ Below (W4.alloc (.cells #[.int .i64 0, .int .i64 0, .int .i64 1, .int .i64 0, .int .i64 1] 3)).heap.size (W4.alloc (.cells #[.int .i64 0, .int .i64 0, .int .i64 1, .int .i64 0, .int .i64 1] 3)) w') := sameN _ d1 (some ⟨W4.heap.size, 0, none⟩) [0, 0, 1, 0, 1] c1 5 (by decide) (R4.out.below ba) (at_alloc5 W4 0 0 1 0 1)
  have BA := hiddenN ba
  clear ba
  go_wp2_with (go_at_call 23; (with_reducible refine SN.out.mono ?_); rintro e W5 ⟨rfl, b5⟩; have b6 := BA.out.trans (b5.mono BA.out.size); have B6 := hiddenN (B4.out.trans (b6.mono B4.out.size)); have m0 := cellN_later b6 k0; have m1 := cellN_later b6 k1; have m2 := cellN_later b6 k2; have u1 := (X4.out.below b6).cell (k := 1) rfl; have v0 := (X3.out.below b6).cell (k := 0) rfl; have v1 := (X3.out.below b6).cell (k := 1) rfl; simp only [List.getElem_toArray, List.getElem_cons_zero, List.getElem_cons_succ] at u1 v0 v1; clear b5 b6 k0 k1 k2)
  go_ret
  exact ⟨by first | rfl | simp, B6.out⟩
theorem sum_take {R : List Int} {k : Nat} (h : k < R.length) : sumU (R.take (k + 1)) = sumU (R.take k) + nth R k := by
  rw [take_snoc h]
  generalize nth R k = z
  generalize R.take k = L
  induction L with
  | nil => show z + 0 = 0 + z; omega
  | cons x L ih => show x + sumU (L ++ [z]) = x + sumU L + z; rw [ih]; omega
end Go.Proofs.Ytigodedloogbcaa

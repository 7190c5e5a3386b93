/- Texts of one chain, laid one behind the other. -/
import Derived.Test.YtmnbapcbailcbaaGreatPartTopPeriods45
import Derived.Test.YtmnbapcbailcbaaGreatPartTopPeriods47
import Derived.Laws.OwnMore
import Derived.Test.YtmnbapcbailcbaaGreatPartTopPeriods3
namespace Go.Proofs.YtmnbapcbailcbaaGreat
open Go.ChangeShapes Go.WideShapes Go.ChangeAt Go.RowKit
def ElB (b : BK) (u : World) (z : Value) : Prop := ∃ g, z = .slice (some ⟨g, 0, none⟩) 1 1 ∧ u.cell? ⟨g, 0, none⟩ = some (.int .i64 b.n) ∧ u.cell? ⟨g, 1, none⟩ = some (.int .i64 b.f) ∧ u.cell? ⟨g, 2, none⟩ = some (.int .i64 b.a)
def SlB (B : Nat) (L : List BK) (u : World) (z : Value) : Prop := ∃ d c, z = .slice d L.length c ∧ CapB B u d c L
theorem SlB.later {B : Nat} {L : List BK} {u u' : World} {z : Value} (h : SlB B L u z) (hb : Below u.heap.size u u') : SlB B L u' z := by
  obtain ⟨d, c, e, h⟩ := h
  exact ⟨d, c, e, h.later hb⟩
theorem ElB.later {b : BK} {u u' : World} {z : Value} (h : ElB b u z) (hb : Below u.heap.size u u') : ElB b u' z := by
  obtain ⟨g, e, h0, h1, h2⟩ := h
  exact ⟨g, e, cellN_later hb h0, cellN_later hb h1, cellN_later hb h2⟩
theorem mark_appBk {V w : World} {o : Oper} {ρ : Operand → Value} (s x : Operand) (ho : o.op = .call { callee := .builtin .append, args := #[s, x], argTypes := #[42, 42] }) {B c0 : Nat} {d0 : Option Addr} {zs : List BK} {b : BK} (hs : ρ s = .slice d0 zs.length c0) (hown : CapB B V d0 c0 zs) (hb : Below V.heap.size V w) (hx : ElB b w (ρ x)) (hn : zs.length ≤ 1000000) (hB : B ≤ V.heap.size)
    {T : World → Value → Prop} (h : ∀ u d c, CapB B u d c (zs ++ [b]) → Below B V u → T u (.slice d (zs.length + 1) c)) : markUpon Tryz.prog w T ((execOp ρ o).run Tryz.prog w) := by
  obtain ⟨g, hx, h0, h1, h2⟩ := hx
  obtain ⟨i1, hi1, hy0, hy1, hy2⟩ := info_parts Tryz.infoBk
  have hown2 : CapB B w d0 c0 zs := hown.later hb
  obtain ⟨v', w', hr, h2, h3⟩ := run_append_told (P := Tryz.prog) w B 42 o.type 99 i1 _ 3 24 Tryz.underlying42 hi1 hy0 hy1 hy2 rfl (by decide) (.slice d0 zs.length c0) zs.length _ hown2 ⟨g, 0, none⟩ 1 1 (by decide) [.int .i64 b.n, .int .i64 b.f, .int .i64 b.a] rfl (fun k u hu => by
    match k, hu with
    | 0, hu => simp at hu; subst hu; simpa [Addr.add] using h0
    | 1, hu => simp at hu; subst hu; simpa [Addr.add] using h1
    | 2, hu => simp at hu; subst hu; simpa [Addr.add] using h2) (fun u hu => by simp at hu; rcases hu with rfl | rfl | rfl <;> rfl) (by unfold maxLen; omega) (by omega) (Nat.le_trans hB hb.size)
  have h2' : w'.ownsRow B 99 3 v' (zs ++ [b]).length (flatB (zs ++ [b])) := by rw [flatB_append, List.length_append]; exact h2
  unfold execOp
  simp only [ho, resolve, invoke, builtin, Sem.run_bind, Sem.run_pure, Result.andThen_ok, List.map_toArray, List.map_cons, List.map_nil, hs, hx, hr]
  rcases h3 with ⟨g1, cap, e1, rfl, hg⟩ | ⟨cap, rfl, hg⟩
  · simp at e1
    refine h w' _ _ (by unfold CapB; rw [List.length_append] at h2' ⊢; exact h2') ((hb.mono hB).grown hg (Nat.le_trans hB hb.size) (fun k hk => ?_))
    cases hk
    exact (hown.lt _ e1.1).1
  · exact h w' _ _ (by unfold CapB; rw [List.length_append] at h2' ⊢; exact h2') ((hb.mono hB).grown hg (Nat.le_trans hB hb.size) (fun k hk => by cases hk))
set_option maxRecDepth 100000 in
set_option maxHeartbeats 8000000 in
theorem blocksU_any {B E : Nat} (w : World) (K0 K gL gO cL cO : Nat) (n : NN) (T F L R O : List Int) (h : RnU B E w K0 K gL gO cL cO n T F L O) (hL : LfU n R F L) (hS : SoundN n) (hF : F.length = n.nodes.toNat) :
    Calls Tryz.prog 29 #[.pointer (some ⟨K0, 0, none⟩)] w fun e w' => ∃ d c, e = .returned (.slice d (blkU n R T F n.nodes.toNat).length c) ∧ CapB w.heap.size w' d c (blkU n R T F n.nodes.toNat) ∧ Below w.heap.size w w' := by
  obtain ⟨RE, hRE⟩ : ∃ Q, (fun (e : Ending) (w' : World) => ∃ d c, e = .returned (.slice d (blkU n R T F n.nodes.toNat).length c) ∧ CapB w.heap.size w' d c (blkU n R T F n.nodes.toNat) ∧ Below w.heap.size w w') = Q := ⟨_, rfl⟩
  rw [hRE]
  have HRE := hiddenN hRE
  have H0 := hiddenN h
  have HL := hiddenN hL
  have y0 := h.blk.cell (k := 0) rfl
  simp only [List.getElem_toArray, List.getElem_cons_zero] at y0
  have FD := hiddenN (fired_any w K n T F h.st)
  unfold RowEndN at FD
  have hnn := nodes_nat hS
  obtain ⟨N, hN⟩ : ∃ N, n.nodes.toNat = N := ⟨_, rfl⟩
  have HN := hiddenN hN
  rw [hN] at hnn hF HRE
  rw [hF] at FD
  have hlL := h.lL
  rw [hN] at hlL
  clear hRE h hL hN
  go_enter Tryz.func29, Tryz.ntmps29
  go_upto_region 3 with (go_at_call 10; (with_reducible refine FD.out.mono ?_); rintro e w1 ⟨aF, cF, rfl, hf1, b1⟩; have F1 := hiddenN hf1; have B1 := hiddenN b1; clear hf1 b1)
  clear FD y0
  obtain ⟨gF, ea, hg1, hg2⟩ := F1.out.there (by rw [hF]; omega)
  subst ea
  have H1 := hiddenN (H0.out.below B1.out)
  have y1 := H1.out.blk.cell (k := 1) rfl
  simp only [List.getElem_toArray, List.getElem_cons_zero, List.getElem_cons_succ] at y1
  rw [hlL] at y1
  go_upto_region 4 with fail
  clear y1
  obtain ⟨Q, hQ⟩ : ∃ q, w1.heap.size = q := ⟨_, rfl⟩
  have HQ := hiddenN hQ
  have hQ1 : Q ≤ w1.heap.size := by omega
  have hgF : gF < Q := by omega
  have hlts := H1.out.lts
  rw [hQ] at hlts
  clear hQ H0
  have SHa : Hid (∀ (W : World), Below Q w1 W → ∀ v : Int, Calls Tryz.prog 58 #[.pointer (some ⟨K, 0, none⟩), .int .i64 v] W fun e w' => e = .returned (.int .i64 (shortN n T v)) ∧ Below W.heap.size W w') := fun W hW v => short_any W K n T F (H1.out.st.keep (fun k _ hk => hW.block k (by omega)) hW.size) v
  go_loopg [3, 17] N (fun gk u3 u17 wr => ∃ (k c : Nat) (d : Option Addr), k ≤ N ∧ gk = N - k ∧ u17 = .int .i64 (k : Int) ∧ u3 = .slice d (blkU n R T F k).length c ∧ CapB Q wr d c (blkU n R T F k) ∧ Below Q w1 wr)
  case atStart => exact ⟨0, 0, none, Nat.zero_le _, rfl, rfl, rfl, CapB.nil _ _, Below.refl _ _⟩
  case round =>
    obtain ⟨k, c, d, hk, rfl, rfl, rfl, hcap, hbw⟩ := hrel
    have CM := hiddenN hcap
    have BW := hiddenN hbw
    clear hcap hbw
    by_cases hlt : k < N
    · have hkN : k < N := hlt
      have hkI : (k : Int) < (N : Int) := by omega
      have hkL : k < L.length := by rw [hlL]; exact hlt
      have L1 := H1.out.lef.keep (w' := wr) (fun x hx => by cases hx; exact BW.out.block _ hlts.2.1.2)
      rcases L1.at with e | ⟨lb, lo, el, hcl⟩
      · rw [e] at hkL; exact absurd hkL (Nat.not_lt_zero _)
      cases el
      have c1 := hcl k hkL
      rw [Nat.zero_add] at c1
      have hLk := HL.out k (by rw [HN.out]; exact hlt)
      rcases F1.out.at with e | ⟨fb, fo, ef, hcf⟩
      · rw [e] at hF; simp at hF; omega
      cases ef
      have c0 := hcf k (by rw [hF]; exact hlt)
      rw [Nat.zero_add] at c0
      have y0 := H1.out.blk.cell (k := 0) rfl
      simp only [List.getElem_toArray, List.getElem_cons_zero] at y0
      have hK0 := hlts.1
      clear L1 hcl hcf
      by_cases hl : nth F k < nth R k
      · have hx : nth L k > 0 := by omega
        have WS := hiddenN (blkU_yes (n := n) (T := T) hl)
        have hMl := blkU_len n R T F k
        have SH : Hid (∀ (W : World), Below wr.heap.size wr W → Calls Tryz.prog 58 #[.pointer (some ⟨K, 0, none⟩), .int .i64 (k : Int)] W fun e w' => e = .returned (.int .i64 (shortN n T (k : Int))) ∧ Below W.heap.size W w') := fun W hW => SHa.out W (BW.out.trans (hW.mono (Nat.le_trans hQ1 BW.out.size))) _
        have hQr : Q ≤ wr.heap.size := Nat.le_trans hQ1 BW.out.size
        clear hl hLk SHa
        generalize shortN n T (k : Int) = y at *
        generalize nth F k = x at *
        generalize nth L k = lz at *
        generalize blkU n R T F k = M at *
        go_upto_region 7 with fail
        refine wp_region_gen [14] (fun d_ i u z => match i with
            | 0 => z = .slice d M.length c
            | 1 => z = .int .i64 (k : Int)
            | 2 => z = .slice (some ⟨gF, 0, none⟩) N cF
            | 3 => z = .int .i64 (k : Int)
            | 4 => z = .pointer (some ⟨gF, k, none⟩)
            | 5 => z = .int .i64 x
            | 6 => z = .pointer (some ⟨K0, 0, none⟩)
            | 7 => z = .pointer (some ⟨K0, 0, none⟩)
            | 8 => z = .pointer (some ⟨K0, 0, none⟩)
            | 9 => z = .pointer (some ⟨K, 0, none⟩)
            | 10 => z = .int .i64 (k : Int)
            | 11 => z = .int .i64 y
            | 12 => z = .agg #[.int .i64 (k : Int), .int .i64 x, .int .i64 y]
            | 13 => (d_ 14 = false → ElB (⟨(k : Int), x, y⟩ : BK) u z)
            | 14 => (d_ 14 = true ∧ SlB Q (M ++ [(⟨(k : Int), x, y⟩ : BK)]) u z)
            | 15 => (d_ 14 = true ∧ SlB Q (M ++ [(⟨(k : Int), x, y⟩ : BK)]) u z)
            | _ => True) (fun d_ u => (d_ 14 = false → Below wr.heap.size wr u) ∧ Below Q w1 u) (by kernel_rfl) (by kernel_rfl) (by kernel_rfl) ?_ ?_ ?_ ?_ ?_ ?_ (by kernel_rfl)
        · intro d_ i w v w' h hb
          match i, h with
          | 0, h => exact h
          | 1, h => exact h
          | 2, h => exact h
          | 3, h => exact h
          | 4, h => exact h
          | 5, h => exact h
          | 6, h => exact h
          | 7, h => exact h
          | 8, h => exact h
          | 9, h => exact h
          | 10, h => exact h
          | 11, h => exact h
          | 12, h => exact h
          | 13, h => exact fun e => (h e).later hb
          | 14, h => exact ⟨h.1, h.2.later hb⟩
          | 15, h => exact ⟨h.1, h.2.later hb⟩
          | _ + 16, _ => trivial
        · intro d_ u u' h hb
          exact ⟨fun e => (h.1 e).trans (hb.mono (h.1 e).size), h.2.trans (hb.mono (Nat.le_trans hQ1 h.2.size))⟩
        · exact ⟨fun _ => Below.refl _ _, BW.out⟩
        · intro d_ i o ρ w' hm ho hf hg hC hcs hfs hfr hdep
          match i, hm, ho, hf, hg, hfr, hdep with
          | 0, _, ho, hf, hg, hfr, hdep =>
            simp only [gTA, gCZ, gSI] at ho
            subst ho
            refine ⟨fun _ => ?_, fun hw => absurd (show true = false from hw) (by decide)⟩
            have ts : ρ (.tmp 3) = .slice d M.length c := hfr 3 (by kernel_rfl)
            simp [go_sem, ts]
            exact ⟨Below.refl _ _, rfl⟩
          | 1, _, ho, hf, hg, hfr, hdep =>
            simp only [gTA, gCZ, gCS, gSI] at ho
            subst ho
            refine ⟨fun _ => ?_, fun hw => absurd (show true = false from hw) (by decide)⟩
            have ts : ρ (.tmp 5) = .int .i64 (k : Int) := hfr 5 (by kernel_rfl)
            simp [go_sem, ts]
            exact ⟨Below.refl _ _, rfl⟩
          | 2, _, ho, hf, hg, hfr, hdep =>
            simp only [gTA, gCZ, gCS, gSI] at ho
            subst ho
            refine ⟨fun _ => ?_, fun hw => absurd (show true = false from hw) (by decide)⟩
            have ts : ρ (.tmp 4) = .slice (some ⟨gF, 0, none⟩) N cF := hfr 4 (by kernel_rfl)
            simp [go_sem, ts]
            exact ⟨Below.refl _ _, rfl⟩
          | 3, _, ho, hf, hg, hfr, hdep =>
            simp only [gTA, gCZ, gCS, gSI] at ho
            subst ho
            refine ⟨fun _ => ?_, fun hw => absurd (show true = false from hw) (by decide)⟩
            have ts : ρ (.tmp 5) = .int .i64 (k : Int) := hfr 5 (by kernel_rfl)
            simp [go_sem, ts]
            exact ⟨Below.refl _ _, rfl⟩
          | 4, _, ho, hf, hg, hfr, hdep =>
            simp only [gTA, gCZ, gCS, gSI] at ho
            subst ho
            refine ⟨fun _ => ?_, fun hw => absurd (show true = false from hw) (by decide)⟩
            have d0 : ρ (.tmp 26) = .slice (some ⟨gF, 0, none⟩) N cF := hdep 2 26 (by kernel_rfl) (by kernel_rfl)
            have d1 : ρ (.tmp 27) = .int .i64 (k : Int) := hdep 3 27 (by kernel_rfl) (by kernel_rfl)
            simp [go_sem, d0, d1, hkN]
            exact ⟨Below.refl _ _, rfl⟩
          | 5, _, ho, hf, hg, hfr, hdep =>
            simp only [gTA, gCZ, gCS, gSI] at ho
            subst ho
            refine ⟨fun _ => ?_, fun hw => absurd (show true = false from hw) (by decide)⟩
            have cc := cellN_keep hC.2 hgF c0
            have d0 : ρ (.tmp 28) = .pointer (some ⟨gF, k, none⟩) := hdep 4 28 (by kernel_rfl) (by kernel_rfl)
            simp [go_sem, d0, cc]
            exact ⟨Below.refl _ _, rfl⟩
          | 6, _, ho, hf, hg, hfr, hdep =>
            simp only [gTA, gCZ, gCS, gSI] at ho
            subst ho
            refine ⟨fun _ => ?_, fun hw => absurd (show true = false from hw) (by decide)⟩
            have ts : ρ (.tmp 0) = .pointer (some ⟨K0, 0, none⟩) := hfr 0 (by kernel_rfl)
            simp [go_sem, ts]
            exact ⟨Below.refl _ _, rfl⟩
          | 7, _, ho, hf, hg, hfr, hdep =>
            simp only [gTA, gCZ, gCS, gSI] at ho
            subst ho
            refine ⟨fun _ => ?_, fun hw => absurd (show true = false from hw) (by decide)⟩
            have d0 : ρ (.tmp 30) = .pointer (some ⟨K0, 0, none⟩) := hdep 6 30 (by kernel_rfl) (by kernel_rfl)
            simp [go_sem, d0]
            exact ⟨Below.refl _ _, rfl⟩
          | 8, _, ho, hf, hg, hfr, hdep =>
            simp only [gTA, gCZ, gCS, gSI] at ho
            subst ho
            refine ⟨fun _ => ?_, fun hw => absurd (show true = false from hw) (by decide)⟩
            have d0 : ρ (.tmp 31) = .pointer (some ⟨K0, 0, none⟩) := hdep 7 31 (by kernel_rfl) (by kernel_rfl)
            simp [go_sem, d0]
            exact ⟨Below.refl _ _, rfl⟩
          | 9, _, ho, hf, hg, hfr, hdep =>
            simp only [gTA, gCZ, gCS, gSI] at ho
            subst ho
            refine ⟨fun _ => ?_, fun hw => absurd (show true = false from hw) (by decide)⟩
            have cc := cellN_keep hC.2 hK0 y0
            have d0 : ρ (.tmp 32) = .pointer (some ⟨K0, 0, none⟩) := hdep 8 32 (by kernel_rfl) (by kernel_rfl)
            simp [go_sem, d0, cc]
            exact ⟨Below.refl _ _, rfl⟩
          | 10, _, ho, hf, hg, hfr, hdep =>
            simp only [gTA, gCZ, gCS, gSI] at ho
            subst ho
            refine ⟨fun _ => ?_, fun hw => absurd (show true = false from hw) (by decide)⟩
            have ts : ρ (.tmp 5) = .int .i64 (k : Int) := hfr 5 (by kernel_rfl)
            simp [go_sem, ts]
            exact ⟨Below.refl _ _, rfl⟩
          | 11, _, ho, hf, hg, hfr, hdep =>
            simp only [gTA, gCZ, gCS, gSI] at ho
            subst ho
            refine ⟨fun _ => ?_, fun hw => absurd (show true = false from hw) (by decide)⟩
            have t0 : ρ (.tmp 33) = .pointer (some ⟨K, 0, none⟩) := hdep 9 33 (by kernel_rfl) (by kernel_rfl)
            have t1 : ρ (.tmp 34) = .int .i64 (k : Int) := hdep 10 34 (by kernel_rfl) (by kernel_rfl)
            have h14 : d_ 14 = false := hf 14 (by decide) (by kernel_rfl)
            simp [go_sem, t0, t1, hfs]
            exact ⟨rfl, (SH.out w' (hC.1 h14)).mono fun e w'' hh => ⟨_, hh.1, hh.2, rfl⟩⟩
          | 12, _, ho, hf, hg, hfr, hdep =>
            simp only [gTA, gCZ, gCS, gSI] at ho
            subst ho
            refine ⟨fun _ => ?_, fun hw => absurd (show true = false from hw) (by decide)⟩
            have d0 : ρ (.tmp 25) = .int .i64 (k : Int) := hdep 1 25 (by kernel_rfl) (by kernel_rfl)
            have d1 : ρ (.tmp 29) = .int .i64 x := hdep 5 29 (by kernel_rfl) (by kernel_rfl)
            have d2 : ρ (.tmp 35) = .int .i64 y := hdep 11 35 (by kernel_rfl) (by kernel_rfl)
            simp [go_sem, d0, d1, d2]
            exact ⟨Below.refl _ _, rfl⟩
          | 13, _, ho, hf, hg, hfr, hdep =>
            simp only [gTA, gCZ, gCS, gSI] at ho
            subst ho
            refine ⟨fun _ => ?_, fun hw => absurd (show true = false from hw) (by decide)⟩
            have t0 : ρ (.tmp 36) = .agg #[.int .i64 (k : Int), .int .i64 x, .int .i64 y] := hdep 12 36 (by kernel_rfl) (by kernel_rfl)
            simp [go_sem, t0]
            exact ⟨(Below.refl _ _).alloc (Nat.le_refl _) _, fun _ => ⟨w'.heap.size, rfl, (blkA_new 99 w' #[.int .i64 (k : Int), .int .i64 x, .int .i64 y]).cell rfl, (blkA_new 99 w' #[.int .i64 (k : Int), .int .i64 x, .int .i64 y]).cell rfl, (blkA_new 99 w' #[.int .i64 (k : Int), .int .i64 x, .int .i64 y]).cell rfl⟩⟩
          | 14, hm, _, _, _, _, _ => exact absurd hm (by decide)
          | 15, _, ho, hf, hg, hfr, hdep =>
            simp only [gTA, gCZ, gCS, gSI] at ho
            subst ho
            refine ⟨fun _ => ?_, fun hw => absurd (show true = false from hw) (by decide)⟩
            have t0 : d_ 14 = true ∧ SlB Q (M ++ [(⟨(k : Int), x, y⟩ : BK)]) w' (ρ (.tmp 38)) := hdep 14 38 (by kernel_rfl) (by kernel_rfl)
            obtain ⟨qd, d9, c9, q0, q1⟩ := t0
            simp [go_sem, q0]
            exact ⟨Below.refl _ _, qd, d9, c9, by rw [List.length_append]; rfl, q1⟩
          | n + 16, _, ho, _, _, _, _ => simp at ho
        · intro d_ i o ρ w' hm ho h0 hf hg hC hcs hfs hfr hdep
          match i, hm, ho, h0, hf, hg, hfr, hdep with
          | 0, hm, _, _, _, _, _, _ => exact absurd hm (by decide)
          | 1, hm, _, _, _, _, _, _ => exact absurd hm (by decide)
          | 2, hm, _, _, _, _, _, _ => exact absurd hm (by decide)
          | 3, hm, _, _, _, _, _, _ => exact absurd hm (by decide)
          | 4, hm, _, _, _, _, _, _ => exact absurd hm (by decide)
          | 5, hm, _, _, _, _, _, _ => exact absurd hm (by decide)
          | 6, hm, _, _, _, _, _, _ => exact absurd hm (by decide)
          | 7, hm, _, _, _, _, _, _ => exact absurd hm (by decide)
          | 8, hm, _, _, _, _, _, _ => exact absurd hm (by decide)
          | 9, hm, _, _, _, _, _, _ => exact absurd hm (by decide)
          | 10, hm, _, _, _, _, _, _ => exact absurd hm (by decide)
          | 11, hm, _, _, _, _, _, _ => exact absurd hm (by decide)
          | 12, hm, _, _, _, _, _, _ => exact absurd hm (by decide)
          | 13, hm, _, _, _, _, _, _ => exact absurd hm (by decide)
          | 14, _, ho, h0, hf, hg, hfr, hdep =>
            simp only [gTA, gCZ, gCS, gSI] at ho
            subst ho
            have t0 : ρ (.tmp 24) = .slice d M.length c := hdep 0 24 (by kernel_rfl) (by kernel_rfl)
            have t1 : ElB (⟨(k : Int), x, y⟩ : BK) w' (ρ (.tmp 37)) := hdep 13 37 (by kernel_rfl) (by kernel_rfl) h0
            refine ⟨rfl, mark_appBk (.tmp 24) (.tmp 37) rfl t0 CM.out (hC.1 h0) t1 (by omega) hQr ?_⟩
            intro u9 d9 c9 hG hB9
            refine ⟨⟨fun e => absurd e (by rw [doneAt_eq]; decide), BW.out.trans hB9⟩, fun _ => ⟨doneAt_eq _ _, d9, c9, by rw [List.length_append]; rfl, hG⟩, ?_⟩
            intro i t hi hs
            match i, hi, hs with
            | 0, _, hs => exact hs
            | 1, _, hs => exact hs
            | 2, _, hs => exact hs
            | 3, _, hs => exact hs
            | 4, _, hs => exact hs
            | 5, _, hs => exact hs
            | 6, _, hs => exact hs
            | 7, _, hs => exact hs
            | 8, _, hs => exact hs
            | 9, _, hs => exact hs
            | 10, _, hs => exact hs
            | 11, _, hs => exact hs
            | 12, _, hs => exact hs
            | 13, _, hs => exact fun e => absurd e (by rw [doneAt_eq]; decide)
            | 14, _, hs => exact absurd hs.1 (by rw [h0]; decide)
            | 15, _, hs => exact absurd hs.1 (by rw [h0]; decide)
            | _ + 16, _, _ => trivial
          | 15, hm, _, _, _, _, _, _ => exact absurd hm (by decide)
          | n + 16, _, ho, _, _, _, _, _ => simp at ho
        · intro U2 W2 hC2 hS
          obtain ⟨-, d2, c2, e15, D2⟩ : true = true ∧ SlB Q (M ++ [(⟨(k : Int), x, y⟩ : BK)]) W2 (U2 15) := hS 15 (by decide) (by intro h; cases h)
          simp only [puts, e15]
          simp only [Act.put, List.setIfInBounds_toArray, List.set_cons_zero, List.set_cons_succ]
          clear hS e15
          have D2' := hiddenN D2
          have B2 := hiddenN hC2.2
          rw [← WS.out] at D2'
          clear D2 hC2
          go_wp2
          go_roundg (N - (k + 1))
          case measure => omega
          case rel => exact ⟨k + 1, c2, d2, by omega, rfl, by go_num, by rw [WS.out], D2'.out, B2.out⟩
      · have hx : ¬ nth L k > 0 := by omega
        have WS := hiddenN (blkU_no (n := n) (T := T) hl)
        clear hl hLk y0 c0
        generalize nth L k = lz at *
        go_wp2
        go_roundg (N - (k + 1))
        case measure => omega
        case rel => exact ⟨k + 1, c, d, by omega, rfl, by go_num, by rw [WS.out], by rw [WS.out]; exact CM.out, BW.out⟩
    · have ek : k = N := by omega
      subst ek
      go_wp2
      rw [← HRE.out]
      have hQw : w.heap.size ≤ Q := by rw [← HQ.out]; exact B1.out.size
      exact ⟨d, c, rfl, CM.out.mono hQw, B1.out.trans (BW.out.mono hQw)⟩
def errU (n : NN) (R P : List Int) : Int := if hoE n R = 0 then (if hoB n R = true then (if 2048 < sumU R then 5 else if arnU n P = true then 0 else 100) else 130) else hoE n R
structure GoodU (n : NN) (R : List Int) : Prop where
  check : checkN n = 0
  len : R.length = n.nodes.toNat
  nodes : R.length ≤ 32
  win : ∀ k, k < R.length → 1 ≤ nth R k ∧ nth R k ≤ 4096
  bal : BalU n R
theorem ev_int {n : NN} {R : List Int} {i : Nat} (he : EvB n.arcs (natB R) i) (hsa : SoundA n.nodes (nthNa n.arcs i)) (w1 : 1 ≤ nth R (nthNa n.arcs i).f.toNat) (w2 : 1 ≤ nth R (nthNa n.arcs i).t.toNat) : (nthNa n.arcs i).g * nth R (nthNa n.arcs i).f.toNat = (nthNa n.arcs i).k * nth R (nthNa n.arcs i).t.toNat := by
  unfold EvB gN kN fN tN natB at he
  have e := congrArg (fun z : Nat => (z : Int)) he
  have hg := hsa.g; have hk := hsa.k
  simp only [Int.natCast_mul] at e
  rw [Int.toNat_of_nonneg (by omega), Int.toNat_of_nonneg (by omega), Int.toNat_of_nonneg (by omega), Int.toNat_of_nonneg (by omega)] at e
  exact e
theorem good_of {n : NN} {R : List Int} (h : hoB n R = true) : GoodU n R := by
  unfold hoB at h
  rw [Bool.and_eq_true, Bool.and_eq_true, Bool.and_eq_true, decide_eq_true_iff, decide_eq_true_iff] at h
  obtain ⟨h1, h2, h3, h4⟩ := h
  have hS := check_sound h1
  have hn := hS.nodes
  have hw := winB_iff.1 h3
  refine ⟨h1, by omega, by omega, hw, fun i hi => ?_⟩
  have hf : fuB n.arcs (natB R) = none := by
    cases hx : fuB n.arcs (natB R) with
    | none => rfl
    | some j => rw [hx] at h4; cases h4
  have he := fuB_all hf i hi
  have hsa := hS.arcs i hi
  have ha := hsa.f; have ht := hsa.t
  have w1 := hw (nthNa n.arcs i).f.toNat (by omega)
  have w2 := hw (nthNa n.arcs i).t.toNat (by omega)
  exact ev_int he hsa w1.1 w2.1
theorem ho_two {n : NN} {R : List Int} (h : hoB n R = true) : hoE n R = 0 := by
  unfold hoB at h
  rw [Bool.and_eq_true, Bool.and_eq_true, decide_eq_true_iff, decide_eq_true_iff] at h
  unfold hoE
  rw [if_pos h.1, if_pos h.2.1]
theorem check_not {n : NN} {R P : List Int} (h : ¬ hoE n R = 0) : errU n R P = hoE n R := by unfold errU; rw [if_neg h]
set_option maxRecDepth 100000 in
set_option maxHeartbeats 4000000 in
theorem checkU_any (n : NN) (a : Option Addr) (c : Nat) (R : List Int) (r : Option Addr) (rc : Nat) (P : List Int) (p : Option Addr) (pc : Nat) (w : World) (h : AtN w a n.arcs) (hl : n.arcs.length ≤ 4611686018427387904) (hr : At w r R) (hR : R.length ≤ 4611686018427387904) (hp : At w p P) (hP : P.length ≤ 4611686018427387904) :
    Calls Tryz.prog 26 #[.agg #[.int .i64 n.nodes, .slice a n.arcs.length c], .slice r R.length rc, .slice p P.length pc] w fun e w' => e = .returned (.int .i64 (errU n R P)) ∧ Below w.heap.size w w' := by
  have b0 := (Below.refl w.heap.size w).alloc (Nat.le_refl _) (.cells #[.int .i64 n.nodes, .slice a n.arcs.length c] 30)
  have X0 := hiddenN (blkA_new 30 w #[.int .i64 n.nodes, .slice a n.arcs.length c])
  have B0 := hiddenN b0
  have HO := hiddenN (holds_any n a c R r rc _ (h.below b0) hl (hr.below b0) hR)
  have HR := hiddenN (hr.below b0)
  have HP := hiddenN (hp.below b0)
  clear b0 h hr hp
  have y0 := X0.out.cell (k := 0) rfl
  have y1 := X0.out.cell (k := 1) rfl
  simp only [List.getElem_toArray, List.getElem_cons_zero, List.getElem_cons_succ] at y0 y1
  by_cases he : hoE n R = 0
  · rw [he] at HO
    cases hb : hoB n R with
    | false =>
      have HE : Hid (errU n R P = 130) := by show _ = _; unfold errU; rw [if_pos he, hb]; rfl
      rw [hb] at HO
      clear hb he
      go_enter Tryz.func26, Tryz.ntmps26
      go_upto_region 1 with fail
      generalize w.alloc (.cells #[.int .i64 n.nodes, .slice a n.arcs.length c] 30) = W0 at *
      go_wp2_with (go_at_call 53; (with_reducible refine HO.out.mono ?_); rintro e W1 ⟨rfl, b1⟩; have L1 := hiddenN (B0.out.trans (b1.mono B0.out.size)); clear b1)
      go_ret
      exact ⟨by rw [HE.out]; rfl, L1.out⟩
    | true =>
      have hg := good_of hb
      have TT := hiddenN (fun (W : World) (hW : At W r R) => totalU_any r R R.length rc W rfl hg.nodes hg.win hW)
      have AN := hiddenN (fun (W : World) (hW : At W p P) => areNodes_any n a c p P P.length pc W rfl hP hW)
      rw [hb] at HO
      by_cases hs : 2048 < sumU R
      · have HE : Hid (errU n R P = 5) := by show _ = _; unfold errU; rw [if_pos he, if_pos hb, if_pos hs]
        clear hb he hg AN
        go_enter Tryz.func26, Tryz.ntmps26
        go_upto_region 1 with fail
        generalize w.alloc (.cells #[.int .i64 n.nodes, .slice a n.arcs.length c] 30) = W0 at *
        generalize sumU R = sm at *
        have hgt : sm > 2048 := hs
        go_wp2_with (first
          | (go_at_call 53; (with_reducible refine HO.out.mono ?_); rintro e W1 ⟨rfl, b1⟩; have L1 := hiddenN (B0.out.trans (b1.mono B0.out.size)); have R1 := hiddenN (HR.out.below b1); clear b1)
          | (go_at_call 54; (with_reducible refine (TT.out W1 R1.out).mono ?_); rintro e W2 ⟨rfl, rfl⟩))
        go_ret
        exact ⟨by rw [HE.out]; rfl, L1.out⟩
      · cases ha : arnU n P with
        | false =>
          have HE : Hid (errU n R P = 100) := by show _ = _; unfold errU; rw [if_pos he, if_pos hb, if_neg hs, ha]; rfl
          rw [ha] at AN
          clear hb he hg ha
          go_enter Tryz.func26, Tryz.ntmps26
          go_upto_region 1 with fail
          generalize w.alloc (.cells #[.int .i64 n.nodes, .slice a n.arcs.length c] 30) = W0 at *
          generalize sumU R = sm at *
          have hgt : ¬ sm > 2048 := hs
          go_wp2_with (first
            | (go_at_call 53; (with_reducible refine HO.out.mono ?_); rintro e W1 ⟨rfl, b1⟩; have L1 := hiddenN (B0.out.trans (b1.mono B0.out.size)); have R1 := hiddenN (HR.out.below b1); have P1 := hiddenN (HP.out.below b1); have z0 := (X0.out.below b1).cell (k := 0) rfl; have z1 := (X0.out.below b1).cell (k := 1) rfl; simp only [List.getElem_toArray, List.getElem_cons_zero, List.getElem_cons_succ] at z0 z1; clear b1 y0 y1)
            | (go_at_call 54; (with_reducible refine (TT.out W1 R1.out).mono ?_); rintro e W2 ⟨rfl, rfl⟩)
            | (go_at_call 55; (with_reducible refine (AN.out _ P1.out).mono ?_); rintro e W3 ⟨rfl, b3⟩; have L3 := hiddenN (L1.out.trans (b3.mono L1.out.size)); clear b3))
          go_ret
          exact ⟨by rw [HE.out]; rfl, L3.out⟩
        | true =>
          have HE : Hid (errU n R P = 0) := by show _ = _; unfold errU; rw [if_pos he, if_pos hb, if_neg hs, ha]; rfl
          rw [ha] at AN
          clear hb he hg ha
          go_enter Tryz.func26, Tryz.ntmps26
          go_upto_region 1 with fail
          generalize w.alloc (.cells #[.int .i64 n.nodes, .slice a n.arcs.length c] 30) = W0 at *
          generalize sumU R = sm at *
          have hgt : ¬ sm > 2048 := hs
          go_wp2_with (first
            | (go_at_call 53; (with_reducible refine HO.out.mono ?_); rintro e W1 ⟨rfl, b1⟩; have L1 := hiddenN (B0.out.trans (b1.mono B0.out.size)); have R1 := hiddenN (HR.out.below b1); have P1 := hiddenN (HP.out.below b1); have z0 := (X0.out.below b1).cell (k := 0) rfl; have z1 := (X0.out.below b1).cell (k := 1) rfl; simp only [List.getElem_toArray, List.getElem_cons_zero, List.getElem_cons_succ] at z0 z1; clear b1 y0 y1)
            | (go_at_call 54; (with_reducible refine (TT.out W1 R1.out).mono ?_); rintro e W2 ⟨rfl, rfl⟩)
            | (go_at_call 55; (with_reducible refine (AN.out _ P1.out).mono ?_); rintro e W3 ⟨rfl, b3⟩; have L3 := hiddenN (L1.out.trans (b3.mono L1.out.size)); clear b3))
          go_ret
          exact ⟨by rw [HE.out]; rfl, L3.out⟩
  · have HE := hiddenN (check_not (P := P) he)
    have hne : (hoE n R != 0) = true := by simpa using he
    generalize hoE n R = er at *
    generalize hoB n R = bo at *
    clear he
    go_enter Tryz.func26, Tryz.ntmps26
    go_upto_region 1 with fail
    generalize w.alloc (.cells #[.int .i64 n.nodes, .slice a n.arcs.length c] 30) = W0 at *
    go_wp2_with (go_at_call 53; (with_reducible refine HO.out.mono ?_); rintro e W1 ⟨rfl, b1⟩; have L1 := hiddenN (B0.out.trans (b1.mono B0.out.size)); clear b1)
    go_ret
    exact ⟨by rw [HE.out]; rfl, L1.out⟩
/-! ### begun -/
structure GhU where
  gL : Nat
  cL : Nat
  gO : Nat
  cO : Nat
structure CU (V : World) (R O : List Int) (y : GhU) (d : Nat → Bool) (u : World) : Prop where
  bel : Below V.heap.size V u
  l : d 2 = true → CapR V.heap.size u (some ⟨y.gL, 0, none⟩) y.cL R
  o : d 6 = true → CapR V.heap.size u (some ⟨y.gO, 0, none⟩) y.cO O
  dis : d 2 = true → d 6 = true → y.gL ≠ y.gO
theorem CU.start (V : World) (R O : List Int) (y : GhU) : CU V R O y (fun _ => false) V := ⟨Below.refl _ _, (fun h => by cases h), (fun h => by cases h), (fun h => by cases h)⟩
theorem CU.later {V u u' : World} {R O : List Int} {y : GhU} {d : Nat → Bool} (h : CU V R O y d u) (hb : Below u.heap.size u u') : CU V R O y d u' :=
  ⟨h.bel.trans (hb.mono h.bel.size), fun e => (h.l e).later hb, fun e => (h.o e).later hb, h.dis⟩
theorem CU.m2 {V u u' : World} {R O : List Int} {y : GhU} {d : Nat → Bool} {g c : Nat} (h : CU V R O y d u) (hw : CapR u.heap.size u' (some ⟨g, 0, none⟩) c R) (hb : Below u.heap.size u u') : CU V R O ⟨g, c, y.gO, y.cO⟩ (doneAt d 2) u' := by
  have k := h.later hb
  have e4 : doneAt d 2 6 = d 6 := doneAt_ne d (by decide)
  refine ⟨k.bel, fun _ => hw.mono h.bel.size, fun e => k.o (by rw [← e4]; exact e), fun _ e => ?_⟩
  rw [e4] at e
  have h1 := (hw.lt _ rfl).1
  have h2 := ((h.o e).lt _ rfl).2
  simp only at h1 h2 ⊢
  omega
theorem CU.m6 {V u u' : World} {R O : List Int} {y : GhU} {d : Nat → Bool} {g c : Nat} (h : CU V R O y d u) (hw : CapR u.heap.size u' (some ⟨g, 0, none⟩) c O) (hb : Below u.heap.size u u') : CU V R O ⟨y.gL, y.cL, g, c⟩ (doneAt d 6) u' := by
  have k := h.later hb
  have e4 : doneAt d 6 2 = d 2 := doneAt_ne d (by decide)
  refine ⟨k.bel, fun e => k.l (by rw [← e4]; exact e), fun _ => hw.mono h.bel.size, fun e _ => ?_⟩
  rw [e4] at e
  have h1 := (hw.lt _ rfl).1
  have h2 := ((h.l e).lt _ rfl).2
  simp only at h1 h2 ⊢
  omega
theorem ranU_few {N : Nat} {P : List Int} (h : ∀ z ∈ P, 0 ≤ z ∧ z < (N : Int)) : (ranU N P).length ≤ N ∧ ∀ z ∈ ranU N P, 0 ≤ z ∧ z < (N : Int) := by
  have h2 : ∀ z ∈ ranU N P, 0 ≤ z ∧ z < (N : Int) := fun z hz => by
    rcases wnU_mem.1 hz with h1 | h1
    · rcases wnU_mem.1 h1 with h2 | h2
      · cases h2
      · exact h z h2
    · exact fallU_mem.1 h1
  exact ⟨nodup_few (wnU_nodup (wnU_nodup List.nodup_nil)) h2, h2⟩
theorem ranU_all {N : Nat} {P : List Int} {z : Int} (h : 0 ≤ z ∧ z < (N : Int)) : z ∈ ranU N P := wnU_mem.2 (.inr (fallU_mem.2 h))
def BegE (n : NN) (R P : List Int) (w : World) (e : Ending) (w' : World) : Prop := ∃ B E K0 K gL gO cL cO, e = .returned (.tuple #[.pointer (some ⟨K0, 0, none⟩), .int .i64 0]) ∧ RnU B E w' K0 K gL gO cL cO n (startT n) (List.replicate n.nodes.toNat 0) R (ranU n.nodes.toNat P) ∧ w.heap.size ≤ B ∧ Below w.heap.size w w'
set_option maxRecDepth 100000 in
set_option maxHeartbeats 8000000 in
theorem begun_any (n : NN) (a : Option Addr) (c : Nat) (R : List Int) (r : Option Addr) (rc : Nat) (P : List Int) (p : Option Addr) (pc : Nat) (w : World) (h : AtN w a n.arcs) (hna : a = none → n.arcs.length = 0 ∧ c = 0) (hr : At w r R) (hrn : r = none → R.length = 0 ∧ rc = 0) (hp : At w p P) (hP : P.length ≤ 4611686018427387904) (hg : GoodU n R) (hPn : arnU n P = true) :
    Calls Tryz.prog 27 #[.agg #[.int .i64 n.nodes, .slice a n.arcs.length c], .slice r R.length rc, .slice p P.length pc] w (BegE n R P w) := by
  obtain ⟨RE, hRE⟩ : ∃ Q, BegE n R P w = Q := ⟨_, rfl⟩
  rw [hRE]
  have HRE := hiddenN hRE
  have hS := check_sound hg.check
  have hnn := nodes_nat hS
  have hmost := hS.most
  have b0 := (Below.refl w.heap.size w).alloc (Nat.le_refl _) (.cells #[.int .i64 n.nodes, .slice a n.arcs.length c] 30)
  have X0 := hiddenN (blkA_new 30 w #[.int .i64 n.nodes, .slice a n.arcs.length c])
  have B0 := hiddenN b0
  have hRl := hg.len
  obtain ⟨N, hN⟩ : ∃ N, n.nodes.toNat = N := ⟨_, rfl⟩
  have hPi : ∀ z ∈ P, 0 ≤ z ∧ z < (N : Int) := fun z hz => by have := node_in (arnU_iff.1 hPn z hz); omega
  have NW : Hid (Calls Tryz.prog 9 #[.agg #[.int .i64 n.nodes, .slice a n.arcs.length c]] (w.alloc (.cells #[.int .i64 n.nodes, .slice a n.arcs.length c] 30)) fun e w' => ∃ K E, e = .returned (.tuple #[.pointer (some ⟨K, 0, none⟩), .int .i64 0]) ∧ StE (w.alloc (.cells #[.int .i64 n.nodes, .slice a n.arcs.length c] 30)).heap.size E w' K n (startT n) (List.replicate n.nodes.toNat 0) ∧ Below (w.alloc (.cells #[.int .i64 n.nodes, .slice a n.arcs.length c] 30)).heap.size (w.alloc (.cells #[.int .i64 n.nodes, .slice a n.arcs.length c] 30)) w') := by
    refine (newS_any n a c _ (h.below b0) (by omega) hna).mono ?_
    intro e w' hh
    unfold NewE at hh
    rw [if_pos hg.check] at hh
    exact hh
  have HR := hiddenN (hr.below b0)
  have HP := hiddenN (hp.below b0)
  have CLa : Hid (∀ (W : World), At W r R → Calls Tryz.prog 31 #[.slice r R.length rc] W fun e w' => ∃ g cc, e = .returned (.slice (some ⟨g, 0, none⟩) R.length cc) ∧ CapR W.heap.size w' (some ⟨g, 0, none⟩) cc R ∧ Below W.heap.size W w') := fun W hW => by
    refine (cloneN_any r R R.length rc W rfl (by omega) hrn hW).mono ?_
    rintro e w' ⟨a', cap', rfl, h1, h2⟩
    obtain ⟨g, rfl, -, -⟩ := h1.there (by omega)
    exact ⟨g, cap', rfl, h1, h2⟩
  have RKa : Hid (∀ (W : World), At W p P → Calls Tryz.prog 56 #[.int .i64 (N : Int), .slice p P.length pc] W fun e w' => ∃ g cc, e = .returned (.slice (some ⟨g, 0, none⟩) (ranU N P).length cc) ∧ CapR W.heap.size w' (some ⟨g, 0, none⟩) cc (ranU N P) ∧ Below W.heap.size W w') := fun W hW => by
    refine (ranked_any P p P.length pc N W rfl hP (by omega) hPi hW).mono ?_
    rintro e w' ⟨a', cap', rfl, h1, h2⟩
    obtain ⟨g, rfl, -, -⟩ := h1.there (List.length_pos_iff.2 fun e => by
      have := ranU_all (N := N) (P := P) (z := 0) (by omega)
      rw [e] at this; cases this)
    exact ⟨g, cap', rfl, h1, h2⟩
  have HNd : Hid ((ranU N P).length ≤ 32 ∧ ∀ v ∈ ranU N P, nodeB n v = true) := ⟨Nat.le_trans (ranU_few hPi).1 (by omega), fun v hv => decide_eq_true (by have := (ranU_few hPi).2 v hv; omega)⟩
  have HRl : Hid (R.length = n.nodes.toNat) := hRl
  have HO : Hid (ranU n.nodes.toNat P = ranU N P) := by show _ = _; rw [hN]
  have HL : Hid (R.length = N) := by show _ = _; rw [hRl, hN]
  have y0 := X0.out.cell (k := 0) rfl
  have y1 := X0.out.cell (k := 1) rfl
  simp only [List.getElem_toArray, List.getElem_cons_zero, List.getElem_cons_succ] at y0 y1
  have hn1 : Hid (n.nodes = (N : Int)) := by show _ = _; omega
  rw [HL.out]
  clear b0 hr hp hrn h hna hRE hPi hPn hRl hN hnn
  go_enter Tryz.func27, Tryz.ntmps27
  go_upto_region 1 with fail
  generalize hW0 : w.alloc (.cells #[.int .i64 n.nodes, .slice a n.arcs.length c] 30) = W0 at *
  go_upto_region 4 with (go_at_call 9; (with_reducible refine NW.out.mono ?_); rintro e V1 ⟨K, E, rfl, s1, b1⟩; have S1 := hiddenN s1; have B1 := hiddenN b1; clear s1 b1)
  have y0 := (X0.out.below B1.out).cell (k := 0) rfl
  simp only [List.getElem_toArray, List.getElem_cons_zero] at y0
  have R1 := hiddenN (HR.out.below B1.out)
  have P1 := hiddenN (HP.out.below B1.out)
  have CL : Hid (∀ (W : World), Below V1.heap.size V1 W → Calls Tryz.prog 31 #[.slice r N rc] W fun e w' => ∃ g cc, e = .returned (.slice (some ⟨g, 0, none⟩) N cc) ∧ CapR W.heap.size w' (some ⟨g, 0, none⟩) cc R ∧ Below W.heap.size W w') := fun W hW => by
    have := CLa.out W (R1.out.below hW)
    rw [HL.out] at this
    exact this
  have RK := hiddenN (fun (W : World) (hW : Below V1.heap.size V1 W) => RKa.out W (P1.out.below hW))
  rw [hn1.out] at y0
  generalize hO : ranU N P = O at *
  generalize hM : O.length = M at *
  generalize P.length = len at *
  obtain ⟨xb, hxb⟩ : ∃ q, w.heap.size = q := ⟨_, rfl⟩
  rw [hxb] at y0 ⊢
  clear NW HR HP CLa RKa R1 P1
  refine wp_region_gho [2, 6] (fun y d i u z => match i with
      | 0 => z = .pointer (some ⟨K, 0, none⟩)
      | 1 => z = .slice r N rc
      | 2 => (d 2 = true ∧ z = .slice (some ⟨y.gL, 0, none⟩) N y.cL)
      | 3 => z = .pointer (some ⟨xb, 0, none⟩)
      | 4 => z = .int .i64 (N : Int)
      | 5 => z = .slice p len pc
      | 6 => (d 6 = true ∧ z = .slice (some ⟨y.gO, 0, none⟩) M y.cO)
      | 7 => ((d 2 = true ∧ d 6 = true) ∧ z = .agg #[.pointer (some ⟨K, 0, none⟩), .slice (some ⟨y.gL, 0, none⟩) N y.cL, .slice (some ⟨y.gO, 0, none⟩) M y.cO])
      | 8 => ((d 2 = true ∧ d 6 = true) ∧ ∃ K0, z = .pointer (some ⟨K0, 0, none⟩) ∧ BlkA 133 K0 u #[.pointer (some ⟨K, 0, none⟩), .slice (some ⟨y.gL, 0, none⟩) N y.cL, .slice (some ⟨y.gO, 0, none⟩) M y.cO] ∧ V1.heap.size ≤ K0 ∧ K0 ≠ y.gL ∧ K0 ≠ y.gO)
      | 9 => ((d 2 = true ∧ d 6 = true) ∧ ∃ K0, z = .pointer (some ⟨K0, 0, none⟩) ∧ BlkA 133 K0 u #[.pointer (some ⟨K, 0, none⟩), .slice (some ⟨y.gL, 0, none⟩) N y.cL, .slice (some ⟨y.gO, 0, none⟩) M y.cO] ∧ V1.heap.size ≤ K0 ∧ K0 ≠ y.gL ∧ K0 ≠ y.gO)
      | 10 => z = .int .i64 0
      | _ => True) (fun y d u => CU V1 R O y d u) (⟨0, 0, 0, 0⟩) (by kernel_rfl) (by kernel_rfl) (by kernel_rfl) ?_ ?_ ?_ ?_ ?_ ?_ (by kernel_rfl)
  · intro y d i w v w' h hb
    match i, h with
    | 0, h => exact h
    | 1, h => exact h
    | 2, h => exact h
    | 3, h => exact h
    | 4, h => exact h
    | 5, h => exact h
    | 6, h => exact h
    | 7, h => exact h
    | 8, h => exact ⟨h.1, by obtain ⟨K0, h1, h2, h3⟩ := h.2; exact ⟨K0, h1, h2.below hb, h3⟩⟩
    | 9, h => exact ⟨h.1, by obtain ⟨K0, h1, h2, h3⟩ := h.2; exact ⟨K0, h1, h2.below hb, h3⟩⟩
    | 10, h => exact h
    | _ + 11, _ => trivial
  · intro y d u u' h hb
    exact CU.later h hb
  · exact CU.start _ _ _ _
  · intro y d i o ρ w' hm ho hf hg hC hcs hfs hfr hdep
    match i, hm, ho, hf, hg, hfr, hdep with
    | 0, _, ho, hf, hg, hfr, hdep =>
      simp only [gTA, gCZ, gSI] at ho
      subst ho
      refine ⟨fun _ => ?_, fun hw => absurd (show true = false from hw) (by decide)⟩
      have ts : ρ (.tmp 8) = .pointer (some ⟨K, 0, none⟩) := hfr 8 (by kernel_rfl)
      simp [go_sem, ts]
      exact ⟨Below.refl _ _, rfl⟩
    | 1, _, ho, hf, hg, hfr, hdep =>
      simp only [gTA, gCZ, gCS, gSI] at ho
      subst ho
      refine ⟨fun _ => ?_, fun hw => absurd (show true = false from hw) (by decide)⟩
      have ts : ρ (.tmp 1) = .slice r N rc := hfr 1 (by kernel_rfl)
      simp [go_sem, ts]
      exact ⟨Below.refl _ _, rfl⟩
    | 2, hm, _, _, _, _, _ => exact absurd hm (by decide)
    | 3, _, ho, hf, hg, hfr, hdep =>
      simp only [gTA, gCZ, gCS, gSI] at ho
      subst ho
      refine ⟨fun _ => ?_, fun hw => absurd (show true = false from hw) (by decide)⟩
      have ts : ρ (.tmp 3) = .pointer (some ⟨xb, 0, none⟩) := hfr 3 (by kernel_rfl)
      simp [go_sem, ts]
      exact ⟨Below.refl _ _, rfl⟩
    | 4, _, ho, hf, hg, hfr, hdep =>
      simp only [gTA, gCZ, gCS, gSI] at ho
      subst ho
      refine ⟨fun _ => ?_, fun hw => absurd (show true = false from hw) (by decide)⟩
      have k0 := cellN_later hC.bel y0
      have d0 : ρ (.tmp 21) = .pointer (some ⟨xb, 0, none⟩) := hdep 3 21 (by kernel_rfl) (by kernel_rfl)
      simp [go_sem, d0, k0]
      exact ⟨Below.refl _ _, rfl⟩
    | 5, _, ho, hf, hg, hfr, hdep =>
      simp only [gTA, gCZ, gCS, gSI] at ho
      subst ho
      refine ⟨fun _ => ?_, fun hw => absurd (show true = false from hw) (by decide)⟩
      have ts : ρ (.tmp 2) = .slice p len pc := hfr 2 (by kernel_rfl)
      simp [go_sem, ts]
      exact ⟨Below.refl _ _, rfl⟩
    | 6, hm, _, _, _, _, _ => exact absurd hm (by decide)
    | 7, _, ho, hf, hg, hfr, hdep =>
      simp only [gTA, gCZ, gCS, gSI] at ho
      subst ho
      refine ⟨fun _ => ?_, fun hw => absurd (show true = false from hw) (by decide)⟩
      have t0 : ρ (.tmp 18) = .pointer (some ⟨K, 0, none⟩) := hdep 0 18 (by kernel_rfl) (by kernel_rfl)
      obtain ⟨q1, t1⟩ : d 2 = true ∧ ρ (.tmp 20) = .slice (some ⟨y.gL, 0, none⟩) N y.cL := hdep 2 20 (by kernel_rfl) (by kernel_rfl)
      obtain ⟨q4, t4⟩ : d 6 = true ∧ ρ (.tmp 24) = .slice (some ⟨y.gO, 0, none⟩) M y.cO := hdep 6 24 (by kernel_rfl) (by kernel_rfl)
      simp [go_sem, t0, t1, t4]
      exact ⟨Below.refl _ _, ⟨q1, q4⟩, rfl⟩
    | 8, _, ho, hf, hg, hfr, hdep =>
      simp only [gTA, gCZ, gCS, gSI] at ho
      subst ho
      refine ⟨fun _ => ?_, fun hw => absurd (show true = false from hw) (by decide)⟩
      obtain ⟨qq, t5⟩ : (d 2 = true ∧ d 6 = true) ∧ ρ (.tmp 25) = .agg #[.pointer (some ⟨K, 0, none⟩), .slice (some ⟨y.gL, 0, none⟩) N y.cL, .slice (some ⟨y.gO, 0, none⟩) M y.cO] := hdep 7 25 (by kernel_rfl) (by kernel_rfl)
      simp [go_sem, t5]
      exact ⟨(Below.refl _ _).alloc (Nat.le_refl _) _, qq, w'.heap.size, rfl, blkA_new 133 w' _, hC.bel.size, by have := ((hC.l qq.1).lt _ rfl).2; simp only at this; omega, by have := ((hC.o qq.2).lt _ rfl).2; simp only at this; omega⟩
    | 9, _, ho, hf, hg, hfr, hdep =>
      simp only [gTA, gCZ, gCS, gSI] at ho
      subst ho
      refine ⟨fun _ => ?_, fun hw => absurd (show true = false from hw) (by decide)⟩
      obtain ⟨qq, K0, t6, rest⟩ : (d 2 = true ∧ d 6 = true) ∧ ∃ K0, ρ (.tmp 26) = .pointer (some ⟨K0, 0, none⟩) ∧ BlkA 133 K0 w' #[.pointer (some ⟨K, 0, none⟩), .slice (some ⟨y.gL, 0, none⟩) N y.cL, .slice (some ⟨y.gO, 0, none⟩) M y.cO] ∧ V1.heap.size ≤ K0 ∧ K0 ≠ y.gL ∧ K0 ≠ y.gO := hdep 8 26 (by kernel_rfl) (by kernel_rfl)
      simp [go_sem, t6]
      exact ⟨Below.refl _ _, qq, K0, rfl, rest⟩
    | 10, _, ho, hf, hg, hfr, hdep =>
      simp only [gTA, gCZ, gCS, gSI] at ho
      subst ho
      refine ⟨fun _ => ?_, fun hw => absurd (show true = false from hw) (by decide)⟩
      simp [go_sem, hcs]
      exact ⟨Below.refl _ _, rfl⟩
    | n + 11, _, ho, _, _, _, _ => simp at ho
  · intro y d i o ρ w' hm ho h0 hf hg hC hcs hfs hfr hdep
    match i, hm, ho, h0, hf, hg, hfr, hdep with
    | 0, hm, _, _, _, _, _, _ => exact absurd hm (by decide)
    | 1, hm, _, _, _, _, _, _ => exact absurd hm (by decide)
    | 2, _, ho, h0, hf, hg, hfr, hdep =>
      simp only [gTA, gCZ, gCS, gSI] at ho
      subst ho
      have t0 : ρ (.tmp 19) = .slice r N rc := hdep 1 19 (by kernel_rfl) (by kernel_rfl)
      have CLw := CL.out w' hC.bel
      refine ⟨rfl, ?_⟩
      simp [go_sem, markUpon, t0, hfs]
      refine CLw.mono ?_
      rintro e w'' ⟨g, cc, rfl, q1, q2⟩
      refine ⟨_, rfl, ⟨g, cc, y.gO, y.cO⟩, hC.m2 q1 q2, ⟨doneAt_eq _ _, rfl⟩, ?_⟩
      intro j t hj hs
      match j, hs with
      | 0, hs => exact hs
      | 1, hs => exact hs
      | 2, hs => exact absurd hs.1 (by rw [h0]; decide)
      | 3, hs => exact hs
      | 4, hs => exact hs
      | 5, hs => exact hs
      | 6, hs => exact ⟨(doneAt_ne d (by decide)).trans hs.1, hs.2⟩
      | 7, hs => exact absurd hs.1.1 (by rw [h0]; decide)
      | 8, hs => exact absurd hs.1.1 (by rw [h0]; decide)
      | 9, hs => exact absurd hs.1.1 (by rw [h0]; decide)
      | 10, hs => exact hs
      | _ + 11, _ => trivial
    | 3, hm, _, _, _, _, _, _ => exact absurd hm (by decide)
    | 4, hm, _, _, _, _, _, _ => exact absurd hm (by decide)
    | 5, hm, _, _, _, _, _, _ => exact absurd hm (by decide)
    | 6, _, ho, h0, hf, hg, hfr, hdep =>
      simp only [gTA, gCZ, gCS, gSI] at ho
      subst ho
      have t0 : ρ (.tmp 22) = .int .i64 (N : Int) := hdep 4 22 (by kernel_rfl) (by kernel_rfl)
      have t1 : ρ (.tmp 23) = .slice p len pc := hdep 5 23 (by kernel_rfl) (by kernel_rfl)
      have CLw := RK.out w' hC.bel
      refine ⟨rfl, ?_⟩
      simp [go_sem, markUpon, t0, t1, hfs]
      refine CLw.mono ?_
      rintro e w'' ⟨g, cc, rfl, q1, q2⟩
      refine ⟨_, rfl, ⟨y.gL, y.cL, g, cc⟩, hC.m6 q1 q2, ⟨doneAt_eq _ _, rfl⟩, ?_⟩
      intro j t hj hs
      match j, hs with
      | 0, hs => exact hs
      | 1, hs => exact hs
      | 2, hs => exact ⟨(doneAt_ne d (by decide)).trans hs.1, hs.2⟩
      | 3, hs => exact hs
      | 4, hs => exact hs
      | 5, hs => exact hs
      | 6, hs => exact absurd hs.1 (by rw [h0]; decide)
      | 7, hs => exact absurd hs.1.2 (by rw [h0]; decide)
      | 8, hs => exact absurd hs.1.2 (by rw [h0]; decide)
      | 9, hs => exact absurd hs.1.2 (by rw [h0]; decide)
      | 10, hs => exact hs
      | _ + 11, _ => trivial
    | 7, hm, _, _, _, _, _, _ => exact absurd hm (by decide)
    | 8, hm, _, _, _, _, _, _ => exact absurd hm (by decide)
    | 9, hm, _, _, _, _, _, _ => exact absurd hm (by decide)
    | 10, hm, _, _, _, _, _, _ => exact absurd hm (by decide)
    | n + 11, _, ho, _, _, _, _, _ => simp at ho
  · intro y9 V w9 hC9 hS
    obtain ⟨-, K0, e9, k1, k2, k3, k4⟩ := hS 9 (by decide) (by intro h; cases h)
    have e10 : V 10 = .int .i64 0 := hS 10 (by decide) (by intro h; cases h)
    simp only [puts, e9, e10]
    simp only [Act.put, List.setIfInBounds_toArray, List.set_cons_zero, List.set_cons_succ]
    clear hS e9 e10
    have hC := hC9
    have G9 := hiddenN hC
    have Q9 : Hid (RnU W0.heap.size E w9 K0 K y9.gL y9.gO y9.cL y9.cO n (startT n) (List.replicate n.nodes.toNat 0) R O) := by
      have hlow := S1.out.low.2
      refine ⟨S1.out.below hC.bel, ?_, (hC.l rfl).mono hlow, (hC.o rfl).mono hlow, by omega, k3, k4, hC.dis rfl rfl, HRl.out, by rw [hM]; exact HNd.out.1, HNd.out.2⟩
      rw [HL.out, hM]
      exact k1
    have B9 : Hid (Below w.heap.size w w9) := (B0.out.trans (B1.out.mono B0.out.size)).trans (hC.bel.mono (Nat.le_trans B0.out.size B1.out.size))
    clear hC hC9 k1 k2 k3 k4 G9
    go_wp2
    rw [← HRE.out]
    refine ⟨W0.heap.size, E, K0, K, y9.gL, y9.gO, y9.cL, y9.cO, rfl, ?_, B0.out.size, B9.out⟩
    rw [HO.out]
    exact Q9.out
theorem err_zero {n : NN} {R P : List Int} (h : errU n R P = 0) : hoB n R = true ∧ sumU R ≤ 2048 ∧ arnU n P = true := by
  unfold errU at h
  split at h
  · split at h
    · split at h
      · cases h
      · split at h
        · rename_i h1 h2 h3 h4; exact ⟨h2, by omega, h4⟩
        · cases h
    · cases h
  · rename_i h1; exact absurd h h1
theorem nth_rep0 (N k : Nat) : nth (List.replicate N (0 : Int)) k = 0 := by
  unfold nth
  rw [List.getD_eq_getElem?_getD]
  by_cases hk : k < N
  · rw [List.getElem?_replicate, if_pos hk]; rfl
  · rw [List.getElem?_replicate, if_neg hk]; rfl
def finU (n : NN) (R P : List Int) : List Int × List Int × List Int := runU n R (ranU n.nodes.toNat P) 2048 (startT n) (List.replicate n.nodes.toNat 0)
def bloU (n : NN) (R P : List Int) : List BK := blkU n R (finU n R P).2.1 (finU n R P).2.2 n.nodes.toNat
def lisU (n : NN) (R P : List Int) : List Int := if errU n R P = 0 then (if bloU n R P = [] then (finU n R P).1 else []) else []
def stkU (n : NN) (R P : List Int) : List BK := if errU n R P = 0 then bloU n R P else []
structure FinU (n : NN) (R P : List Int) : Prop where
  good : GoodU n R
  sound : SoundN n
  eq : EqN n ((finU n R P).1.length : Int) (finU n R P).2.1 (finU n R P).2.2
  top : LeU n (finU n R P).2.2 R
  fires : firesN n (finU n R P).1 (startT n) (List.replicate n.nodes.toNat 0) = ((finU n R P).1.length, (finU n R P).2)
  sum : sumU (finU n R P).2.2 = ((finU n R P).1.length : Int)
  node : ∀ z ∈ (finU n R P).1, nodeB n z = true
  fin : EndU n R (finU n R P).2.1 (finU n R P).2.2
  few : sumU R ≤ 2048
theorem start_mid {n : NN} {R P : List Int} (h : errU n R P = 0) : MidU n R (ranU n.nodes.toNat P) 2048 (startT n) (List.replicate n.nodes.toNat 0) [] (startT n) (List.replicate n.nodes.toNat 0) R 0 2048 := by
  obtain ⟨h1, h2, h3⟩ := err_zero h
  have hg := good_of h1
  have hS := check_sound hg.check
  refine ⟨fun k hk => by rw [nth_rep0]; omega, start_eq hS rfl, fun k hk => by rw [nth_rep0]; have := hg.win k (by rw [hg.len]; exact hk); omega, by rw [sum_zero]; show sumU R - 0 ≤ 2048; omega, by decide, rfl, rfl⟩
theorem fin_of {n : NN} {R P : List Int} (h : errU n R P = 0) : FinU n R P := by
  obtain ⟨h1, h2, h3⟩ := err_zero h
  have hg := good_of h1
  have hS := check_sound hg.check
  have hm := start_mid h
  have e := run_ends (R := R) (O := ranU n.nodes.toNat P) hS 2048 _ _ 0 hm.eq (by decide)
  have hnn := nodes_nat hS
  refine ⟨hg, hS, by have := e.eq; rwa [Int.zero_add] at this, e.top hm.top, e.fires, by have := e.sum; rwa [sum_zero, Int.zero_add] at this, e.node, ?_, h2⟩
  exact run_end hS hg.len (fun v hv => ranU_all (by have := node_in hv; omega)) 2048 _ _ 0 hm.eq (by decide) hm.top hm.sum
def RunE (n : NN) (R P : List Int) (w : World) (e : Ending) (w' : World) : Prop := ∃ d1 c1 d2 c2, e = .returned (.tuple #[.agg #[.slice d1 (lisU n R P).length c1, .slice d2 (stkU n R P).length c2], .int .i64 (errU n R P)]) ∧ CapR w.heap.size w' d1 c1 (lisU n R P) ∧ CapB w.heap.size w' d2 c2 (stkU n R P) ∧ Below w.heap.size w w'
set_option maxRecDepth 100000 in
set_option maxHeartbeats 8000000 in
theorem simRun_any (n : NN) (a : Option Addr) (c : Nat) (R : List Int) (r : Option Addr) (rc : Nat) (P : List Int) (p : Option Addr) (pc : Nat) (w : World) (h : AtN w a n.arcs) (hl : n.arcs.length ≤ 4611686018427387904) (hna : a = none → n.arcs.length = 0 ∧ c = 0) (hr : At w r R) (hR : R.length ≤ 4611686018427387904) (hrn : r = none → R.length = 0 ∧ rc = 0) (hp : At w p P) (hP : P.length ≤ 4611686018427387904) :
    Calls Tryz.prog 8 #[.agg #[.int .i64 n.nodes, .slice a n.arcs.length c], .slice r R.length rc, .slice p P.length pc] w (RunE n R P w) := by
  have b0 := (Below.refl w.heap.size w).alloc (Nat.le_refl _) (.cells #[.int .i64 n.nodes, .slice a n.arcs.length c] 30)
  have b1 := (Below.refl (w.alloc (.cells #[.int .i64 n.nodes, .slice a n.arcs.length c] 30)).heap.size (w.alloc (.cells #[.int .i64 n.nodes, .slice a n.arcs.length c] 30))).alloc (Nat.le_refl _) (.cells #[.slice none 0 0, .slice none 0 0] 44)
  have hs0 : (w.alloc (.cells #[.int .i64 n.nodes, .slice a n.arcs.length c] 30)).heap.size = w.heap.size + 1 := World.size_alloc _ _
  have b2 := b0.trans (b1.mono b0.size)
  have XN := hiddenN ((blkA_new 30 w #[.int .i64 n.nodes, .slice a n.arcs.length c]).below b1)
  have XB := hiddenN (blkA_new 44 (w.alloc (.cells #[.int .i64 n.nodes, .slice a n.arcs.length c] 30)) #[.slice none 0 0, .slice none 0 0])
  rw [hs0] at XB
  have L0 := hiddenN b2
  have HA := hiddenN (h.below b2)
  have HR := hiddenN (hr.below b2)
  have HP := hiddenN (hp.below b2)
  have CK := hiddenN (checkU_any n a c R r rc P p pc _ (h.below b2) hl (hr.below b2) hR (hp.below b2) hP)
  clear b0 b1 b2 hs0 h hr hp
  obtain ⟨RE, hRE⟩ : ∃ Q, RunE n R P w = Q := ⟨_, rfl⟩
  rw [hRE]
  have HRE := hiddenN hRE
  clear hRE
  obtain ⟨nb, hnb⟩ : ∃ q, w.heap.size = q := ⟨_, rfl⟩
  have HNB := hiddenN hnb
  have GOAL : Hid (∀ (x : Int) (d1 : Option Addr) (n1 c1 : Nat) (d2 : Option Addr) (n2 c2 : Nat) (W : World), errU n R P = x → n1 = (lisU n R P).length → n2 = (stkU n R P).length → CapR nb W d1 c1 (lisU n R P) → CapB nb W d2 c2 (stkU n R P) → Below nb w W → RE (.returned (.tuple #[.agg #[.slice d1 n1 c1, .slice d2 n2 c2], .int .i64 x])) W) := fun x d1 n1 c1 d2 n2 c2 W e1 e2 e3 g1 g2 g3 => by
    rw [← HRE.out]
    subst e1
    subst e2
    subst e3
    refine ⟨d1, c1, d2, c2, rfl, ?_, ?_, ?_⟩
    · rw [HNB.out]; exact g1
    · rw [HNB.out]; exact g2
    · rw [HNB.out]; exact g3
  rw [hnb] at XN XB L0
  clear HRE hnb
  by_cases he : errU n R P = 0
  · obtain ⟨e1, e2, e3⟩ := err_zero he
    have hg := good_of e1
    have hF := fin_of he
    have hM := start_mid he
    have hS := hF.sound
    have hnn := nodes_nat hS
    have VL : Hid (bloU n R P = [] → lisU n R P = (finU n R P).1 ∧ stkU n R P = []) := fun hb => by unfold lisU stkU; rw [if_pos he, if_pos hb, if_pos he, hb]; exact ⟨rfl, rfl⟩
    have VS : Hid (bloU n R P ≠ [] → lisU n R P = [] ∧ stkU n R P = bloU n R P) := fun hb => by unfold lisU stkU; rw [if_pos he, if_neg hb, if_pos he]; exact ⟨rfl, rfl⟩
    have BG := hiddenN (fun (U : World) (g1 : AtN U a n.arcs) (g2 : At U r R) (g3 : At U p P) => begun_any n a c R r rc P p pc U g1 hna g2 hrn g3 hP hg e3)
    have FA : Hid (∀ (U : World) (B E K0 K gL gO cL cO : Nat), RnU B E U K0 K gL gO cL cO n (startT n) (List.replicate n.nodes.toNat 0) R (ranU n.nodes.toNat P) → Calls Tryz.prog 28 #[.pointer (some ⟨K0, 0, none⟩)] U fun e w' => ∃ d c L1, e = .returned (.slice d (finU n R P).1.length c) ∧ CapR U.heap.size w' d c (finU n R P).1 ∧ RnU B E w' K0 K gL gO cL cO n (finU n R P).2.1 (finU n R P).2.2 L1 (ranU n.nodes.toNat P) ∧ LfU n R (finU n R P).2.2 L1 ∧ Below B U w') := fun U B E K0 K gL gO cL cO hr => fireAll_any U K0 K gL gO cL cO n _ _ R R _ 2048 0 hr hS hg.len (fun k hk => (hg.win k (by rw [hg.len]; exact hk)).2) (by decide) hM
    have BL : Hid (∀ (U : World) (B E K0 K gL gO cL cO : Nat) (L1 : List Int), RnU B E U K0 K gL gO cL cO n (finU n R P).2.1 (finU n R P).2.2 L1 (ranU n.nodes.toNat P) → LfU n R (finU n R P).2.2 L1 → Calls Tryz.prog 29 #[.pointer (some ⟨K0, 0, none⟩)] U fun e w' => ∃ d c, e = .returned (.slice d (bloU n R P).length c) ∧ CapB U.heap.size w' d c (bloU n R P) ∧ Below U.heap.size U w') := fun U B E K0 K gL gO cL cO L1 hr hl => blocksU_any U K0 K gL gO cL cO n _ _ L1 R _ hr hl hS hF.eq.lF
    have HE := hiddenN he
    rw [he] at CK
    have hZl : (finU n R P).1.length ≤ 1000000 := by
      have h1 := hF.sum
      have h2 := sum_le (F := (finU n R P).2.2) (R := R) (by rw [hF.eq.lF, hg.len]) (fun k hk => hF.top k (by rw [← hF.eq.lF]; exact hk))
      omega
    have hBl : (bloU n R P).length ≤ 32 := by unfold bloU; exact Nat.le_trans (blkU_len ..) (by omega)
    unfold BegE at BG
    clear hg hF hM hS he e1 e2 e3 hnn hrn hna
    go_enter Tryz.func8, Tryz.ntmps8
    go_upto_region 1 with fail
    generalize (w.alloc (.cells #[.int .i64 n.nodes, .slice a n.arcs.length c] 30)).alloc (.cells #[.slice none 0 0, .slice none 0 0] 44) = W0 at *
    rw [HNB.out]
    have y0 := XN.out.cell (k := 0) rfl
    have y1 := XN.out.cell (k := 1) rfl
    simp only [List.getElem_toArray, List.getElem_cons_zero, List.getElem_cons_succ] at y0 y1
    go_upto_region 4 with (go_at_call 26; (with_reducible refine CK.out.mono ?_); rintro e W1 ⟨rfl, b1⟩; have B1 := hiddenN b1; clear b1)
    have hw0 : nb ≤ W0.heap.size := by have := L0.out.size; have := HNB.out; omega
    have L1 := hiddenN (L0.out.trans (B1.out.mono hw0))
    have N1 := hiddenN (XN.out.below B1.out)
    have Y1 := hiddenN (XB.out.below B1.out)
    have BG1 := hiddenN (BG.out W1 (HA.out.below B1.out) (HR.out.below B1.out) (HP.out.below B1.out))
    have hw1 : nb ≤ W1.heap.size := Nat.le_trans hw0 B1.out.size
    clear CK XN XB HA HR HP L0 B1 y0 y1 BG hw0
    have y0 := N1.out.cell (k := 0) rfl
    have y1 := N1.out.cell (k := 1) rfl
    simp only [List.getElem_toArray, List.getElem_cons_zero, List.getElem_cons_succ] at y0 y1
    go_upto_region 7 with (go_at_call 27; (with_reducible refine BG1.out.mono ?_); rintro e W2 ⟨B, E, K0, K, gL, gO, cL, cO, rfl, hr2, hB2, b2⟩; have R2 := hiddenN hr2; have B2 := hiddenN b2; clear hr2 b2)
    have L2 := hiddenN (L1.out.trans (B2.out.mono hw1))
    have Y2 := hiddenN (Y1.out.below B2.out)
    have Y1L : Hid (nb + 1 < W1.heap.size) := Y1.out.lt
    have FA2 := hiddenN (FA.out W2 B E K0 K gL gO cL cO R2.out)
    have hw2 : nb ≤ W2.heap.size := Nat.le_trans hw1 B2.out.size
    have hW12 := B2.out.size
    clear BG1 N1 Y1 L1 y0 y1 FA
    go_upto_region 8 with (go_at_call 28; (with_reducible refine FA2.out.mono ?_); rintro e W3 ⟨d3, c3, LL, rfl, hc3, hr3, hl3, b3⟩; have C3 := hiddenN hc3; have R3 := hiddenN hr3; have B3 := hiddenN b3; have BL3 := hiddenN (BL.out W3 B E K0 K gL gO cL cO LL hr3 hl3); clear hc3 hr3 hl3 b3)
    have hwB : nb ≤ B := Nat.le_trans hw1 hB2
    have L3 := hiddenN (L2.out.trans (B3.out.mono hwB))
    have Y3 := hiddenN (Y2.out.keep (B3.out.block _ (Nat.lt_of_lt_of_le Y1L.out hB2)))
    have hw3 : nb ≤ W3.heap.size := Nat.le_trans hw2 B3.out.size
    have C3N : Hid (∀ x, d3 = some x → x.block ≠ nb + 1) := fun x hx => by have := (C3.out.lt x hx).1; have := Y1L.out; omega
    have C3m := hiddenN (C3.out.mono hw2)
    have hW23 := B3.out.size
    clear FA2 BL Y2 L2 C3 R2 B2
    by_cases hb : bloU n R P = []
    · obtain ⟨v1, v2⟩ := VL.out hb
      have V1 := hiddenN v1
      have V2 := hiddenN v2
      rw [hb] at BL3
      have BL4 : Hid (Calls Tryz.prog 29 #[.pointer (some ⟨K0, 0, none⟩)] W3 fun e w' => ∃ d c, e = .returned (.slice d 0 c) ∧ CapB W3.heap.size w' d c [] ∧ Below W3.heap.size W3 w') := BL3.out
      clear v1 v2 hb VL VS BL3 hBl
      generalize hZ : (finU n R P).1 = Z at *
      generalize hzl : Z.length = zl at *
      go_wp2_with (go_at_call 29; (with_reducible refine BL4.out.mono ?_); rintro e W4 ⟨d4, c4, rfl, -, b4⟩; have B4 := hiddenN b4; have Y4 := hiddenN (Y3.out.below b4); have L4 := hiddenN (L3.out.trans (b4.mono hw3)); have z0 := Y4.out.cell (k := 0) rfl; have z1 := Y4.out.cell (k := 1) rfl; simp only [List.getElem_toArray, List.getElem_cons_zero, List.getElem_cons_succ] at z0 z1; have f0 := Y4.out.frozen 0; have f1 := Y4.out.frozen 1; clear b4)
      have BU := hiddenN ((But.set W4 (nb + 1) 0 (.slice d3 zl c3)).trans (But.set _ (nb + 1) 1 (.slice none 0 0)))
      refine bodyPost_ret (v := .tuple #[.agg #[.slice d3 zl c3, .slice none 0 0], .int .i64 0]) (by simp [results, Tryz.results8, go_sem, z0, z1]) rfl ?_
      exact GOAL.out 0 d3 zl c3 none 0 0 _ HE.out (by rw [V1.out, hzl]) (by rw [V2.out]; rfl) (by rw [V1.out]; exact (C3m.out.later B4.out).keep (fun x hx => BU.out.block _ ((C3m.out.later B4.out).lt x hx).2 (C3N.out x hx))) (by rw [V2.out]; exact CapB.nil _ _) ((L4.out.setCell (by show nb ≤ nb + 1; omega) _).setCell (by show nb ≤ nb + 1; omega) _)
    · obtain ⟨v1, v2⟩ := VS.out hb
      have V1 := hiddenN v1
      have V2 := hiddenN v2
      have hpos : 0 < (bloU n R P).length := List.length_pos_iff.2 hb
      clear v1 v2 hb VL VS
      generalize bloU n R P = Q at *
      generalize hql : Q.length = ql at *
      have hposI : (ql : Int) > 0 := by omega
      generalize (finU n R P).1.length = zl at *
      go_wp2_with (go_at_call 29; (with_reducible refine BL3.out.mono ?_); rintro e W4 ⟨d4, c4, rfl, hc4, b4⟩; have C4 := hiddenN hc4; have B4 := hiddenN b4; have Y4 := hiddenN (Y3.out.below b4); have L4 := hiddenN (L3.out.trans (b4.mono hw3)); have z0 := Y4.out.cell (k := 0) rfl; have z1 := Y4.out.cell (k := 1) rfl; simp only [List.getElem_toArray, List.getElem_cons_zero, List.getElem_cons_succ] at z0 z1; have f0 := Y4.out.frozen 0; have f1 := Y4.out.frozen 1; clear b4 hc4)
      have BU := hiddenN ((But.set W4 (nb + 1) 0 (.slice none 0 0)).trans (But.set _ (nb + 1) 1 (.slice d4 ql c4)))
      have C4N : Hid (∀ x, d4 = some x → x.block ≠ nb + 1) := fun x hx => by have := (C4.out.lt x hx).1; have := Y1L.out; omega
      refine bodyPost_ret (v := .tuple #[.agg #[.slice none 0 0, .slice d4 ql c4], .int .i64 0]) (by simp [results, Tryz.results8, go_sem, z0, z1]) rfl ?_
      exact GOAL.out 0 none 0 0 d4 ql c4 _ HE.out (by rw [V1.out]; rfl) (by rw [V2.out, hql]) (by rw [V1.out]; exact CapR.nil _ _) (by rw [V2.out]; exact (C4.out.mono hw3).keep (fun x hx => BU.out.block _ (C4.out.lt x hx).2 (C4N.out x hx))) ((L4.out.setCell (by show nb ≤ nb + 1; omega) _).setCell (by show nb ≤ nb + 1; omega) _)
  · have V1 : Hid (lisU n R P = []) := by show _ = _; unfold lisU; rw [if_neg he]
    have V2 : Hid (stkU n R P = []) := by show _ = _; unfold stkU; rw [if_neg he]
    have hne : (errU n R P != 0) = true := by simpa using he
    clear hrn hna he
    have HE : Hid (errU n R P = errU n R P) := rfl
    generalize hx : errU n R P = x at CK hne
    go_enter Tryz.func8, Tryz.ntmps8
    go_upto_region 1 with fail
    generalize (w.alloc (.cells #[.int .i64 n.nodes, .slice a n.arcs.length c] 30)).alloc (.cells #[.slice none 0 0, .slice none 0 0] 44) = W0 at *
    rw [HNB.out]
    have hw0 : nb ≤ W0.heap.size := by have := L0.out.size; have := HNB.out; omega
    have y0 := XN.out.cell (k := 0) rfl
    have y1 := XN.out.cell (k := 1) rfl
    simp only [List.getElem_toArray, List.getElem_cons_zero, List.getElem_cons_succ] at y0 y1
    have HX := hiddenN hx
    clear hx
    go_wp2_with (go_at_call 26; (with_reducible refine CK.out.mono ?_); rintro e W1 ⟨rfl, b1⟩; have B1 := hiddenN b1; have Y4 := hiddenN (XB.out.below b1); have L4 := hiddenN (L0.out.trans (b1.mono hw0)); have z0 := Y4.out.cell (k := 0) rfl; have z1 := Y4.out.cell (k := 1) rfl; simp only [List.getElem_toArray, List.getElem_cons_zero, List.getElem_cons_succ] at z0 z1; have f0 := Y4.out.frozen 0; have f1 := Y4.out.frozen 1; clear b1)
    refine bodyPost_ret (v := .tuple #[.agg #[.slice none 0 0, .slice none 0 0], .int .i64 x]) (by simp [results, Tryz.results8, go_sem, z0, z1]) rfl ?_
    exact GOAL.out x none 0 0 none 0 0 _ HX.out (by rw [V1.out]; rfl) (by rw [V2.out]; rfl) (by rw [V1.out]; exact CapR.nil _ _) (by rw [V2.out]; exact CapB.nil _ _) ((L4.out.setCell (by show nb ≤ nb + 1; omega) _).setCell (by show nb ≤ nb + 1; omega) _)
def TalT (N : Nat) (n : NN) (zs : List Int) (w : World) (e : Ending) (w' : World) : Prop := ∃ (g c : Nat) (Y : List Int), e = .returned (.tuple #[.slice (some ⟨g, 0, none⟩) N c, .bool (arnU n zs)]) ∧ CapR w.heap.size w' (some ⟨g, 0, none⟩) c Y ∧ Y.length = N ∧ (arnU n zs = true → Y = bumpsN (List.replicate N 0) zs) ∧ Below w.heap.size w w'
set_option maxRecDepth 100000 in
set_option maxHeartbeats 8000000 in
theorem tallyT_any (n : NN) (N : Nat) (hN : n.nodes = (N : Int)) (h1 : 1 ≤ N) (h32 : N ≤ 32) (a : Option Addr) (zs : List Int) (lc : Nat) (w : World) (h : At w a zs) (hm : zs.length ≤ 4611686018427387904) :
    Calls Tryz.prog 14 #[.int .i64 (N : Int), .slice a zs.length lc] w (TalT N n zs w) := by
  obtain ⟨RE, hRE⟩ : ∃ Q, TalT N n zs w = Q := ⟨_, rfl⟩
  rw [hRE]
  have HRE := hiddenN hRE
  have HM := hiddenN (run_make_row' (P := Tryz.prog) 27 3 (.int .i64 0) 8 Tryz.underlying27 Tryz.info3 rfl .i64 .i64 N (by omega) (by omega))
  have hMO := made_ownN w N (by omega) (Nat.le_refl _)
  have ba := (Below.refl w.heap.size w).alloc (Nat.le_refl _) (.cells (madeCells #[.int .i64 0] N) 3)
  have A0 := hiddenN (h.below ba)
  have B0 := hiddenN ba
  have MO := hiddenN hMO
  obtain ⟨len, hlen⟩ : ∃ q, zs.length = q := ⟨_, rfl⟩
  have HL := hiddenN hlen
  rw [hlen] at hm ⊢
  have HNN := hiddenN hN
  have hab : ∀ x, a = some x → zs ≠ [] → x.block < w.heap.size := fun x hx hne => at_lt h hne hx
  clear hRE hMO ba h hlen hN
  go_enter Tryz.func14, Tryz.ntmps14
  go_upto_region 1 with fail
  have hmk := HM.out
  go_upto_region 2 with fail
  clear hmk HM
  generalize w.alloc (.cells (madeCells #[.int .i64 0] N) 3) = W1 at *
  obtain ⟨g, hg⟩ : ∃ q, w.heap.size = q := ⟨_, rfl⟩
  have HG := hiddenN hg
  rw [hg] at MO B0 hab ⊢
  go_upto_region 3 with fail
  go_loopg [7] len (fun gk u wr => ∃ (k cg : Nat) (Y : List Int), k ≤ len ∧ gk = len - k ∧ u = .int .i64 (k : Int) ∧ cg = N ∧ CapR g wr (some ⟨g, 0, none⟩) cg Y ∧ Y.length = N ∧ Below g w wr ∧ At wr a zs ∧ Y = bumpsN (List.replicate N 0) (zs.take k) ∧ arnU n (zs.drop k) = arnU n zs)
  case atStart => exact ⟨0, N, _, Nat.zero_le _, rfl, rfl, rfl, MO.out, by simp, B0.out, A0.out, rfl, rfl⟩
  case round =>
    obtain ⟨k, cg, Y, hk, rfl, rfl, hcg, hC, hYl, hb, hA, hY, hs⟩ := hrel
    have C1 := hiddenN hC
    have B1 := hiddenN hb
    have A1 := hiddenN hA
    have HY := hiddenN hY
    have HS := hiddenN hs
    subst hcg
    clear hC hb hA hY hs
    by_cases hlt : k < len
    · have hkz : k < zs.length := by rw [HL.out]; exact hlt
      have hkN : k < len := hlt
      have hkI : (k : Int) < (len : Int) := by omega
      have hne : zs ≠ [] := fun e => by rw [e] at hkz; exact absurd hkz (Nat.not_lt_zero _)
      rcases A1.out with e | ⟨lb, lo, rfl, hcl⟩
      · exact absurd e hne
      have c0 := hcl k hkz
      have hlg : lb < g := hab _ rfl hne
      have HD : Hid (zs.drop k = nth zs k :: zs.drop (k + 1)) := drop_nth zs k hkz
      have HT : Hid (zs.take (k + 1) = zs.take k ++ [nth zs k]) := take_snoc hkz
      clear hcl
      generalize nth zs k = z at *
      have hnn := HNN.out
      by_cases q1 : z < 0
      · have HF : Hid (arnU n zs = false) := by show _ = _; rw [← HS.out, HD.out, arnU, show nodeB n z = false from decide_eq_false (by omega)]; rfl
        go_wp2
        rw [← HRE.out]
        refine ⟨g, cg, Y, by rw [HF.out] <;> rfl, by rw [HG.out]; exact C1.out, hYl, fun e => ?_, by rw [HG.out]; exact B1.out⟩
        rw [HF.out] at e; cases e
      · by_cases q2 : (cg : Int) ≤ z
        · have HF : Hid (arnU n zs = false) := by show _ = _; rw [← HS.out, HD.out, arnU, show nodeB n z = false from decide_eq_false (by omega)]; rfl
          have hge : z ≥ (cg : Int) := q2
          go_wp2
          rw [← HRE.out]
          refine ⟨g, cg, Y, by rw [HF.out] <;> rfl, by rw [HG.out]; exact C1.out, hYl, fun e => ?_, by rw [HG.out]; exact B1.out⟩
          rw [HF.out] at e; cases e
        · obtain ⟨vn, rfl⟩ : ∃ vn : Nat, z = (vn : Int) := ⟨z.toNat, by omega⟩
          have HN2 : Hid (arnU n (zs.drop (k + 1)) = arnU n zs) := by show _ = _; rw [← HS.out, HD.out, arnU, show nodeB n (vn : Int) = true from decide_eq_true (by omega), Bool.true_and]
          have hvN : vn < cg := by omega
          have hvI : (vn : Int) < (cg : Int) := by omega
          have hvY : vn < Y.length := by omega
          rcases C1.out.at with e | ⟨ob, oo, eo, hco⟩
          · rw [e] at hvY; exact absurd hvY (Nat.not_lt_zero _)
          cases eo
          have c1 := hco vn hvY
          rw [Nat.zero_add] at c1
          have f1 := C1.out.fz vn
          have HY2 : Hid (Y.set vn (wrap64 (nth Y vn + 1)) = bumpsN (List.replicate cg 0) (zs.take (k + 1))) := by
            show _ = _
            rw [HT.out, bumps_snoc, ← HY.out]
            unfold bumpF
            rw [Int.toNat_natCast]
          clear hco hnn q1 q2
          generalize hx : nth Y vn = x at *
          have hwr := wrapN (x + 1)
          generalize hN : cg = N at *
          go_upto_region 7 with fail
          refine wp_region_said 14 (fun i u v => match i with
              | 0 => v = .slice (some ⟨g, 0, none⟩) N N
              | 1 => v = .slice (some ⟨lb, lo, none⟩) len lc
              | 2 => v = .int .i64 (k : Int)
              | 3 => v = .pointer (some ⟨lb, lo + k, none⟩)
              | 4 => v = .int .i64 (vn : Int)
              | 5 => v = .slice (some ⟨g, 0, none⟩) N N
              | 6 => v = .slice (some ⟨lb, lo, none⟩) len lc
              | 7 => v = .int .i64 (k : Int)
              | 8 => v = .pointer (some ⟨lb, lo + k, none⟩)
              | 9 => v = .int .i64 (vn : Int)
              | 10 => v = .pointer (some ⟨g, vn, none⟩)
              | 11 => v = .int .i64 x
              | 12 => v = .int .i64 (wrap64 (x + 1))
              | 13 => v = .pointer (some ⟨g, vn, none⟩)
              | _ => True) (by kernel_rfl) (by kernel_rfl) (by kernel_rfl) (by kernel_rfl) ?_ ?_ ?_
          · intro i w v w' h hb
            match i, h with
            | 0, h => exact h
            | 1, h => exact h
            | 2, h => exact h
            | 3, h => exact h
            | 4, h => exact h
            | 5, h => exact h
            | 6, h => exact h
            | 7, h => exact h
            | 8, h => exact h
            | 9, h => exact h
            | 10, h => exact h
            | 11, h => exact h
            | 12, h => exact h
            | 13, h => exact h
            | _ + 14, _ => trivial
          · intro i o ρ w' hi ho hb hc hf hfr hdep
            match i, hi with
            | 0, _ =>
              simp only [gTA, gCZ, gSI] at ho
              subst ho
              have ts : ρ (.tmp 6) = .slice (some ⟨g, 0, none⟩) N N := hfr 6 (by kernel_rfl)
              simp [go_sem, ts]
              exact ⟨Below.refl _ _, rfl⟩
            | 1, _ =>
              simp only [gTA, gCZ, gCS, gSI] at ho
              subst ho
              have ts : ρ (.tmp 1) = .slice (some ⟨lb, lo, none⟩) len lc := hfr 1 (by kernel_rfl)
              simp [go_sem, ts]
              exact ⟨Below.refl _ _, rfl⟩
            | 2, _ =>
              simp only [gTA, gCZ, gCS, gSI] at ho
              subst ho
              have ts : ρ (.tmp 7) = .int .i64 (k : Int) := hfr 7 (by kernel_rfl)
              simp [go_sem, ts]
              exact ⟨Below.refl _ _, rfl⟩
            | 3, _ =>
              simp only [gTA, gCZ, gCS, gSI] at ho
              subst ho
              have t0 : ρ (.tmp 31) = .slice (some ⟨lb, lo, none⟩) len lc := hdep 1 31 (by kernel_rfl) (by kernel_rfl)
              have t1 : ρ (.tmp 32) = .int .i64 (k : Int) := hdep 2 32 (by kernel_rfl) (by kernel_rfl)
              simp [go_sem, t0, t1, hkN]
              exact ⟨Below.refl _ _, rfl⟩
            | 4, _ =>
              simp only [gTA, gCZ, gCS, gSI] at ho
              subst ho
              have ts : ρ (.tmp 33) = .pointer (some ⟨lb, lo + k, none⟩) := hdep 3 33 (by kernel_rfl) (by kernel_rfl)
              have kc := cellN_later hb c0
              simp [go_sem, ts, kc]
              exact ⟨Below.refl _ _, rfl⟩
            | 5, _ =>
              simp only [gTA, gCZ, gCS, gSI] at ho
              subst ho
              have ts : ρ (.tmp 6) = .slice (some ⟨g, 0, none⟩) N N := hfr 6 (by kernel_rfl)
              simp [go_sem, ts]
              exact ⟨Below.refl _ _, rfl⟩
            | 6, _ =>
              simp only [gTA, gCZ, gCS, gSI] at ho
              subst ho
              have ts : ρ (.tmp 1) = .slice (some ⟨lb, lo, none⟩) len lc := hfr 1 (by kernel_rfl)
              simp [go_sem, ts]
              exact ⟨Below.refl _ _, rfl⟩
            | 7, _ =>
              simp only [gTA, gCZ, gCS, gSI] at ho
              subst ho
              have ts : ρ (.tmp 7) = .int .i64 (k : Int) := hfr 7 (by kernel_rfl)
              simp [go_sem, ts]
              exact ⟨Below.refl _ _, rfl⟩
            | 8, _ =>
              simp only [gTA, gCZ, gCS, gSI] at ho
              subst ho
              have t0 : ρ (.tmp 36) = .slice (some ⟨lb, lo, none⟩) len lc := hdep 6 36 (by kernel_rfl) (by kernel_rfl)
              have t1 : ρ (.tmp 37) = .int .i64 (k : Int) := hdep 7 37 (by kernel_rfl) (by kernel_rfl)
              simp [go_sem, t0, t1, hkN]
              exact ⟨Below.refl _ _, rfl⟩
            | 9, _ =>
              simp only [gTA, gCZ, gCS, gSI] at ho
              subst ho
              have ts : ρ (.tmp 38) = .pointer (some ⟨lb, lo + k, none⟩) := hdep 8 38 (by kernel_rfl) (by kernel_rfl)
              have kc := cellN_later hb c0
              simp [go_sem, ts, kc]
              exact ⟨Below.refl _ _, rfl⟩
            | 10, _ =>
              simp only [gTA, gCZ, gCS, gSI] at ho
              subst ho
              have t0 : ρ (.tmp 35) = .slice (some ⟨g, 0, none⟩) N N := hdep 5 35 (by kernel_rfl) (by kernel_rfl)
              have t1 : ρ (.tmp 39) = .int .i64 (vn : Int) := hdep 9 39 (by kernel_rfl) (by kernel_rfl)
              simp [go_sem, t0, t1, hvN]
              exact ⟨Below.refl _ _, rfl⟩
            | 11, _ =>
              simp only [gTA, gCZ, gCS, gSI] at ho
              subst ho
              have ts : ρ (.tmp 40) = .pointer (some ⟨g, vn, none⟩) := hdep 10 40 (by kernel_rfl) (by kernel_rfl)
              have kc := cellN_later hb c1
              simp [go_sem, ts, kc]
              exact ⟨Below.refl _ _, rfl⟩
            | 12, _ =>
              simp only [gTA, gCZ, gCS, gSI] at ho
              subst ho
              have ts : ρ (.tmp 41) = .int .i64 x := hdep 11 41 (by kernel_rfl) (by kernel_rfl)
              simp [go_sem, ts, hc, hwr]
              exact ⟨Below.refl _ _, rfl⟩
            | 13, _ =>
              simp only [gTA, gCZ, gCS, gSI] at ho
              subst ho
              have t0 : ρ (.tmp 30) = .slice (some ⟨g, 0, none⟩) N N := hdep 0 30 (by kernel_rfl) (by kernel_rfl)
              have t1 : ρ (.tmp 34) = .int .i64 (vn : Int) := hdep 4 34 (by kernel_rfl) (by kernel_rfl)
              simp [go_sem, t0, t1, hvN]
              exact ⟨Below.refl _ _, rfl⟩
          · intro V w9 q9 hS
            have e0 : V 0 = .slice (some ⟨g, 0, none⟩) N N := hS 0 (by decide)
            have e1 : V 1 = .slice (some ⟨lb, lo, none⟩) len lc := hS 1 (by decide)
            have e2 : V 2 = .int .i64 (k : Int) := hS 2 (by decide)
            have e3 : V 3 = .pointer (some ⟨lb, lo + k, none⟩) := hS 3 (by decide)
            have e4 : V 4 = .int .i64 (vn : Int) := hS 4 (by decide)
            have e5 : V 5 = .slice (some ⟨g, 0, none⟩) N N := hS 5 (by decide)
            have e6 : V 6 = .slice (some ⟨lb, lo, none⟩) len lc := hS 6 (by decide)
            have e7 : V 7 = .int .i64 (k : Int) := hS 7 (by decide)
            have e8 : V 8 = .pointer (some ⟨lb, lo + k, none⟩) := hS 8 (by decide)
            have e9 : V 9 = .int .i64 (vn : Int) := hS 9 (by decide)
            have e10 : V 10 = .pointer (some ⟨g, vn, none⟩) := hS 10 (by decide)
            have e11 : V 11 = .int .i64 x := hS 11 (by decide)
            have e12 : V 12 = .int .i64 (wrap64 (x + 1)) := hS 12 (by decide)
            have e13 : V 13 = .pointer (some ⟨g, vn, none⟩) := hS 13 (by decide)
            simp only [List.drop_succ_cons, List.drop_zero, List.take_succ_cons, List.take_zero, puts, e0, e1, e2, e3, e4, e5, e6, e7, e8, e9, e10, e11, e12, e13]
            simp only [Act.put, List.setIfInBounds_toArray, List.set_cons_zero, List.set_cons_succ]
            clear hS e0 e1 e2 e3 e4 e5 e6 e7 e8 e9 e10 e11 e12 e13 V
            have c9 := cellN_later q9 c1
            have hgl : g < wr.heap.size := block_lt_of_cell c1
            have f9 : w9.frozen? ⟨g, vn, none⟩ = false := by
              unfold World.frozen? at f1 ⊢
              rw [q9.block g hgl]
              exact f1
            have C9 := hiddenN ((C1.out.later q9).setAt (k := vn) (wrap64 (x + 1)))
            have B9 : Hid (Below g w (w9.setCell ⟨g, vn, none⟩ (.int .i64 (wrap64 (x + 1))))) := (B1.out.trans (q9.mono (by omega))).trans (Below.setCell' w9 ⟨g, vn, none⟩ _ (Nat.le_refl _))
            have A9 : Hid (At (w9.setCell ⟨g, vn, none⟩ (.int .i64 (wrap64 (x + 1)))) (some ⟨lb, lo, none⟩) zs) := (A1.out.below q9).keep fun y hy => by cases hy; exact Below.heap_setCell _ _ _ _ (by show lb ≠ g; omega)
            go_wp2
            go_roundg (len - (k + 1))
            case measure => omega
            case rel => exact ⟨k + 1, N, _, by omega, rfl, by go_num, rfl, C9.out, by rw [List.length_set]; exact hYl, B9.out, A9.out, HY2.out, HN2.out⟩
    · have ek : k = len := by omega
      subst ek
      have HF : Hid (arnU n zs = true) := by show _ = _; rw [← HS.out, List.drop_eq_nil_of_le (by rw [HL.out]; exact Nat.le_refl _)]; rfl
      have HT : Hid (zs.take k = zs) := List.take_of_length_le (by rw [HL.out]; exact Nat.le_refl _)
      rw [HT.out] at HY
      go_wp2
      rw [← HRE.out]
      exact ⟨g, cg, Y, by rw [HF.out] <;> rfl, by rw [HG.out]; exact C1.out, hYl, fun _ => HY.out, by rw [HG.out]; exact B1.out⟩
theorem wakeU1 : errU netB1 [3, 2] [] = 0 ∧ lisU netB1 [3, 2] [] = [0, 0, 1, 0, 1] ∧ (stkU netB1 [3, 2] []).length = 0 := by decide +kernel
end Go.Proofs.YtmnbapcbailcbaaGreat
namespace Go.Proofs.YtmnbapcbailcbaaGreat
open Go.RowKit
theorem start_le {n : NN} {G : List Int} {T : List Int} {m : Int} (h : EqN n m T G) : LeU n (List.replicate n.nodes.toNat 0) G := fun k hk => by rw [nth_rep0]; exact (h.fs k hk).1
theorem start_eqU {n : NN} (hS : SoundN n) : EqN n 0 (startT n) (List.replicate n.nodes.toNat 0) := start_eq hS rfl
/-- Where a run ends is below where any other ends. -/
theorem fin_le {n n' : NN} {R P T1 F1 : List Int} {m1 : Int} (hf : FinU n R P) (hM : MoreU n n') (h1 : EqN n' m1 T1 F1) (hE : EndU n' R T1 F1) : LeU n (finU n R P).2.2 F1 :=
  run_le hf.sound hM h1 hE 2048 _ _ 0 (start_eqU hf.sound) (by decide) (fun k hk => by rw [nth_rep0]; exact (h1.fs k (by rw [hM.nodes]; exact hk)).1)
theorem same_fired {n : NN} {T1 F1 T2 F2 : List Int} {m1 m2 : Int} (h1 : EqN n m1 T1 F1) (h2 : EqN n m2 T2 F2) (h12 : LeU n F1 F2) (h21 : LeU n F2 F1) : F1 = F2 ∧ T1 = T2 := by
  have e : F1 = F2 := list_eq (by rw [h1.lF, h2.lF]) fun i hi => by
    have hi' : i < n.nodes.toNat := by rw [← h1.lF]; exact hi
    have := h12 i hi'; have := h21 i hi'
    omega
  refine ⟨e, list_eq (by rw [h1.few.len, h2.few.len]) fun i hi => ?_⟩
  rw [h1.few.len] at hi
  rw [h1.eq i hi, h2.eq i hi, e]
theorem fin_bumps {n : NN} {R P : List Int} (h : FinU n R P) : bumpsN (List.replicate n.nodes.toNat 0) (finU n R P).1 = (finU n R P).2.2 := by
  have := (fires_bumps n (finU n R P).1 (startT n) (List.replicate n.nodes.toNat 0)).1
  rw [h.fires] at this
  simp only [List.take_length] at this
  exact this.symm
theorem lis_nodes {n : NN} {R P : List Int} : arnU n (lisU n R P) = true := by
  rw [arnU_iff]
  intro v hv
  unfold lisU at hv
  split at hv
  · rename_i he
    split at hv
    · exact (fin_of he).node v hv
    · cases hv
  · cases hv
/-- There is a list just if nothing is left. -/
theorem blo_nil {n : NN} {R P : List Int} (h : FinU n R P) : bloU n R P = [] ↔ (finU n R P).2.2 = R := by
  unfold bloU
  rw [blkU_nil]
  constructor
  · intro hl
    exact list_eq (by rw [h.eq.lF, h.good.len]) fun i hi => by
      rw [h.eq.lF] at hi
      have := hl i hi; have := h.top i hi
      omega
  · intro e v _
    rw [e]; exact Int.le_refl _
theorem sum_pos {n : NN} {R : List Int} (h : GoodU n R) : 1 ≤ sumU R := by
  have hn := nodes_nat (check_sound h.check)
  have := sum_lt (F := List.replicate R.length 0) (R := R) (j := 0) (by simp) (fun k hk => by rw [nth_rep0]; rw [List.length_replicate] at hk; have := h.win k hk; omega) (by rw [List.length_replicate, h.len]; omega) (by rw [nth_rep0]; have := h.win 0 (by rw [h.len]; omega); omega)
  rw [sum_zero] at this
  omega
theorem lis_len {n : NN} {R P : List Int} (h : errU n R P = 0) (hb : bloU n R P = []) : ((lisU n R P).length : Int) = sumU R := by
  have hf := fin_of h
  have e : lisU n R P = (finU n R P).1 := by unfold lisU; rw [if_pos h, if_pos hb]
  rw [e, ← hf.sum, (blo_nil hf).1 hb]
/-- Just one of the two is empty. -/
theorem lis_or {n : NN} {R P : List Int} (h : errU n R P = 0) : (lisU n R P = [] ∧ stkU n R P ≠ [] ∧ stkU n R P = bloU n R P) ∨ (lisU n R P ≠ [] ∧ stkU n R P = [] ∧ bloU n R P = [] ∧ lisU n R P = (finU n R P).1) := by
  by_cases hb : bloU n R P = []
  · refine .inr ⟨fun e => ?_, by unfold stkU; rw [if_pos h, hb], hb, by unfold lisU; rw [if_pos h, if_pos hb]⟩
    have := lis_len h hb
    have := sum_pos (fin_of h).good
    rw [e] at *
    simp at *
    omega
  · exact .inl ⟨by unfold lisU; rw [if_pos h, if_neg hb], by unfold stkU; rw [if_pos h]; exact hb, by unfold stkU; rw [if_pos h]⟩
/-! ### one token more -/
end Go.Proofs.YtmnbapcbailcbaaGreat
namespace Go.Proofs.YtmnbapcbailcbaaGreat
open Go.ChangeShapes Go.WideShapes Go.ChangeAt Go.RowKit
/-- A state that firings within the counts came to. -/
structure InU (n : NN) (R F0 T F : List Int) (m : Int) : Prop where
  eq : EqN n m T F
  top : LeU n F R
  sum : sumU F = m
  low : ∀ (T1 F1 : List Int) (m1 : Int), EqN n m1 T1 F1 → EndU n R T1 F1 → LeU n F0 F1 → LeU n F F1
theorem InU.few {n : NN} {R F0 T F : List Int} {m : Int} (h : InU n R F0 T F m) (hR : R.length = n.nodes.toNat) : m ≤ sumU R := by
  rw [← h.sum]
  exact sum_le (by rw [h.eq.lF, hR]) fun k hk => h.top k (by rw [← h.eq.lF]; exact hk)
theorem InU.start {n : NN} {R : List Int} (hg : GoodU n R) : InU n R (List.replicate n.nodes.toNat 0) (startT n) (List.replicate n.nodes.toNat 0) 0 :=
  ⟨start_eqU (check_sound hg.check), fun k hk => by rw [nth_rep0]; have := hg.win k (by rw [hg.len]; exact hk); omega, sum_zero _, fun _ _ _ _ _ h => h⟩
theorem InU.step {n : NN} {R F0 T F : List Int} {m : Int} (h : InU n R F0 T F m) (hS : SoundN n) (hR : R.length = n.nodes.toNat) (h2 : sumU R ≤ 2048) {v : Int} (hv : mayN n T v = true) (hl : nth F v.toNat < nth R v.toNat) : InU n R F0 (fireN n T v) (bumpF F v) (m + 1) := by
  have hm := h.few hR
  have hnb := may_node hv
  have hn := node_in hnb
  refine ⟨fire_eqL hS h.eq (by omega) hv, fun k hk => ?_, by rw [sum_bump h.eq (by omega) hnb, h.sum], fun T1 F1 m1 q1 q2 q3 => step_le hS (MoreU.refl n) h.eq q1 q2 (by omega) (h.low T1 F1 m1 q1 q2 q3) hl hv⟩
  rw [bump_eq h.eq (by omega) hn.1 hk]
  have := h.top k hk
  by_cases e : (k : Int) = v
  · have e2 : v.toNat = k := by omega
    rw [e2] at hl; rw [if_pos e]; omega
  · rw [if_neg e]; omega
/-- Within a round: v nodes were asked. -/
structure RdU (n : NN) (R F0 Ts Fs : List Int) (v : Nat) (b : Bool) (T F : List Int) (m : Int) : Prop where
  inn : InU n R F0 T F m
  same : ∀ u, v ≤ u → u < n.nodes.toNat → nth F u = nth Fs u
  no : b = false → T = Ts ∧ F = Fs ∧ ∀ u : Nat, u < v → nth Fs u < nth R u → mayN n Ts (u : Int) = false
  yes : b = true → sumU Fs + 1 ≤ m
theorem RdU.skip {n : NN} {R F0 Ts Fs T F : List Int} {v : Nat} {b : Bool} {m : Int} (h : RdU n R F0 Ts Fs v b T F m) (hv : v < n.nodes.toNat) (hno : nth Fs v < nth R v → mayN n T (v : Int) = false) : RdU n R F0 Ts Fs (v + 1) b T F m :=
  ⟨h.inn, fun u hu hN => h.same u (by omega) hN, fun e => ⟨(h.no e).1, (h.no e).2.1, fun u hu hl => by
    rcases Nat.lt_succ_iff_lt_or_eq.1 hu with h1 | rfl
    · exact (h.no e).2.2 u h1 hl
    · have := hno hl; rwa [(h.no e).1] at this⟩, h.yes⟩
theorem RdU.fire {n : NN} {R F0 Ts Fs T F : List Int} {v : Nat} {b : Bool} {m : Int} (h : RdU n R F0 Ts Fs v b T F m) (hS : SoundN n) (hR : R.length = n.nodes.toNat) (h2 : sumU R ≤ 2048) (hv : v < n.nodes.toNat) (hm : mayN n T (v : Int) = true) (hl : nth Fs v < nth R v) : RdU n R F0 Ts Fs (v + 1) true (fireN n T (v : Int)) (bumpF F (v : Int)) (m + 1) := by
  have hs := h.same v (Nat.le_refl _) hv
  have hst := h.inn.step hS hR h2 hm (by rw [Int.toNat_natCast, hs]; exact hl)
  have hmm := h.inn.few hR
  refine ⟨hst, fun u hu hN => ?_, fun e => (by cases e), fun _ => ?_⟩
  · rw [bump_eq h.inn.eq (by omega) (by omega) hN, if_neg (by omega), h.same u (by omega) hN]; omega
  · cases b with
    | true => have := h.yes rfl; omega
    | false =>
      have := (h.no rfl).2.1
      rw [← this, h.inn.sum]
      exact Int.le_refl _
set_option maxHeartbeats 1000000 in
theorem same_ints (U : World) (X Y : List Int) (d1 d2 : Option Addr) (k1 k2 N : Nat) (h1 : X.length = N) (h2 : Y.length = N) (hN : 1 ≤ N) (hm : N ≤ 4611686018427387904) (q1 : At U d1 X) (q2 : At U d2 Y) :
    Calls Tryz.prog 12 #[.slice d1 N k1, .slice d2 N k2] U fun e w' => e = .returned (.bool (decide (X = Y))) ∧ Below U.heap.size U w' := by
  have hee : ((N : Int) != (N : Int)) = false := by simp
  rcases q1 with e | ⟨b1, off1, rfl, hc1⟩
  · rw [e] at h1; simp at h1; omega
  rcases q2 with e | ⟨b2, off2, rfl, hc2⟩
  · rw [e] at h2; simp at h2; omega
  have HC1 := hiddenN hc1
  have HC2 := hiddenN hc2
  have H1 := hiddenN h1
  have H2 := hiddenN h2
  clear hc1 hc2 h1 h2
  go_enter Tryz.func12, Tryz.ntmps12
  go_wp2
  go_loopw [5] (fun i wr => ∃ k n : Nat, k ≤ N ∧ wr = U.drewN n ∧ i = .int .i64 k ∧ ∀ j, j < k → nth X j = nth Y j) (fun i _ => N - (intOf i).toNat)
  case atStart => exact ⟨0, 0, Nat.zero_le _, rfl, rfl, fun j hj => absurd hj (Nat.not_lt_zero _)⟩
  case round =>
    obtain ⟨k, n, hk, rfl, rfl, hs⟩ := hrel
    have HS := hiddenN hs
    clear hs
    by_cases hlt : k < N
    · have g1 := HC1.out k (by rw [H1.out]; exact hlt)
      have g2 := HC2.out k (by rw [H2.out]; exact hlt)
      have hki : (k : Int) < (N : Int) := by omega
      by_cases e : nth X k = nth Y k
      · have HN : Hid (∀ j, j < k + 1 → nth X j = nth Y j) := fun j hj => by
          rcases Nat.lt_succ_iff_lt_or_eq.1 hj with h1 | rfl
          · exact HS.out j h1
          · exact e
        rw [← e] at g2
        have hnn : (nth X k != nth X k) = false := by simp
        clear e
        generalize nth X k = x at *
        go_wp2
        go_quiet (fail)
        go_wp2
        go_roundw
        case rel => exact ⟨k + 1, n + nq, by omega, rfl, by go_num, HN.out⟩
        case measure => simp [intOf]; omega
      · have HF : Hid (X ≠ Y) := fun h => e (by rw [h])
        have hnn : (nth X k != nth Y k) = true := by simpa using e
        clear e
        generalize nth X k = x at *
        generalize nth Y k = y at *
        go_wp2
        go_quiet (fail)
        go_wp2
        go_ret
        exact ⟨by rw [decide_eq_false HF.out]; rfl, by first | exact drewB (Below.refl _ _) (n + nq) | exact drewB (drewB (Below.refl _ _) n) nq⟩
    · have ek : k = N := by omega
      subst ek
      have HF : Hid (X = Y) := list_eq (by rw [H1.out, H2.out]) fun i hi => HS.out i (by rw [← H1.out]; exact hi)
      go_wp2
      go_ret
      exact ⟨by rw [decide_eq_true HF.out]; rfl, drewB (Below.refl _ _) _⟩
def CnU (n : NN) (lT : Nat) (u : World) (z : Value) : Prop := ∃ ac cc, z = .slice ac lT cc ∧ At u ac (startT n)
theorem fires_noF (n : NN) : ∀ (zs T F F' : List Int), (firesN n zs T F).1 = (firesN n zs T F').1 ∧ (firesN n zs T F).2.1 = (firesN n zs T F').2.1
  | [], _, _, _ => ⟨rfl, rfl⟩
  | v :: zs, T, F, F' => by
    unfold firesN
    by_cases h : mayN n T v = true
    · rw [if_pos h, if_pos h]
      have := fires_noF n zs (fireN n T v) (bumpF F v) (bumpF F' v)
      exact ⟨by show _ + 1 = _ + 1; rw [this.1], this.2⟩
    · rw [if_neg h, if_neg h]; exact ⟨rfl, rfl⟩
theorem home_T {n : NN} {R P : List Int} (h : FinU n R P) (hb : bloU n R P = []) : (finU n R P).2.1 = startT n := by
  have e := (blo_nil h).1 hb
  refine list_eq (by rw [h.eq.few.len]; unfold startT; rw [List.length_map]) fun i hi => ?_
  rw [h.eq.few.len] at hi
  rw [h.eq.eq i hi, e, start_nth hi, h.good.bal i hi]
  omega
theorem home_fires {n : NN} {R P : List Int} (h : FinU n R P) (hb : bloU n R P = []) (F : List Int) : (firesN n (finU n R P).1 (startT n) F).1 = (finU n R P).1.length ∧ (firesN n (finU n R P).1 (startT n) F).2.1 = startT n := by
  have e := fires_noF n (finU n R P).1 (startT n) F (List.replicate n.nodes.toNat 0)
  rw [h.fires] at e
  exact ⟨e.1, by rw [e.2]; exact home_T h hb⟩
theorem short_in {n : NN} {T : List Int} {v : Int} (hS : SoundN n) : -1 ≤ shortN n T v ∧ shortN n T v ≤ 96 := by
  have hm := hS.most
  by_cases hv : nodeB n v = true
  · cases hy : mayN n T v with
    | false =>
      obtain ⟨i, h1, h2, -, -⟩ := short_lack hv hy
      rw [h1]; omega
    | true =>
      unfold mayN at hy
      rw [hv, Bool.true_and, decide_eq_true_iff] at hy
      unfold shortN
      rw [if_pos hv, hy]
      omega
  · unfold shortN; rw [if_neg hv]; omega
theorem blo_in {n : NN} {R P : List Int} (h : FinU n R P) : ∀ b ∈ bloU n R P, InK b := fun b hb => by
  obtain ⟨v, hv, hl, rfl⟩ := blkU_mem hb
  have h1 := h.eq.fs v hv
  have hn := nodes_nat h.sound
  have h2 := h.good.win v (by rw [h.good.len]; exact hv)
  have h3 := short_in (n := n) (T := (finU n R P).2.1) (v := (v : Int)) h.sound
  unfold InK
  simp only
  omega
end Go.Proofs.YtmnbapcbailcbaaGreat

/- Texts of one chain, laid one behind the other. -/
import Derived.Test.YtlfmmdioondaoaaPartGraphDraws30
import Derived.Test.YtlfmmdioondaoaaPartGraphDraws25
import Derived.Test.YtlfmmdioondaoaaPartGraphDraws12
import Derived.Test.YtlfmmdioondaoaaPartGraphDraws8
namespace Go.Proofs.Ytlfmmdioondaoaa
open Go.ChangeShapes Go.WideShapes Go.ChangeAt Go.RowKit
/-- Numbers as new memory. -/
def NuV (V : World) (zs : List Int) (u : World) (v : Value) : Prop := ∃ a c, v = .slice a zs.length c ∧ CapR V.heap.size u a c zs
theorem NuV.later {V u u' : World} {zs : List Int} {v : Value} (h : NuV V zs u v) (hb : Below u.heap.size u u') : NuV V zs u' v := by
  obtain ⟨a, c, h1, h2⟩ := h
  exact ⟨a, c, h1, h2.later hb⟩
theorem nuV_of {V w w' : World} {zs : List Int} {e : Ending} (h : CopiedC w zs.length zs e w') (hV : V.heap.size ≤ w.heap.size) : ∃ v, e = .returned v ∧ Below w.heap.size w w' ∧ NuV V zs w' v := by
  obtain ⟨a, c, h1, h2, h3⟩ := h
  exact ⟨_, h1, h3, a, c, rfl, h2.mono hV⟩
def NewD (B : Nat) (T : TypeId) (cs : Array Value) (u : World) (v : Value) : Prop := ∃ xb, v = .pointer (some ⟨xb, 0, none⟩) ∧ B ≤ xb ∧ BlkA T xb u cs
theorem NewD.later {B : Nat} {T : TypeId} {cs : Array Value} {u u' : World} {v : Value} (h : NewD B T cs u v) (hb : Below u.heap.size u u') : NewD B T cs u' v := by
  obtain ⟨xb, h1, h2, h3⟩ := h
  exact ⟨xb, h1, h2, h3.below hb⟩
set_option maxRecDepth 100000 in
set_option maxHeartbeats 32000000 in
theorem rdraw_yes (g : GG) (ab ao : Nat) (a2 a3 a4 : Option Addr) (c1 c2 c3 c4 : Nat) (w : World) (h : GrG w (some ⟨ab, ao, none⟩) a2 a3 a4 g) (h0 : (firstF g).code = 0) :
    Calls Try.prog 19 #[.agg #[.string (str g.name), .slice (some ⟨ab, ao, none⟩) g.actors.length c1, .slice a2 g.edges.length c2, .slice a3 g.ins.length c3, .slice a4 g.outs.length c4]] w (DrawEnd g w) := by
  have ba := ((Below.refl w.heap.size w).alloc (Nat.le_refl _) (.cells #[.string (str g.name), .slice (some ⟨ab, ao, none⟩) g.actors.length c1, .slice a2 g.edges.length c2, .slice a3 g.ins.length c3, .slice a4 g.outs.length c4] 31)).alloc (by simp) (.cells #[.string ⟨#[]⟩, .slice none 0 0] 24)
  have gg := (blkA_new 31 w #[.string (str g.name), .slice (some ⟨ab, ao, none⟩) g.actors.length c1, .slice a2 g.edges.length c2, .slice a3 g.ins.length c3, .slice a4 g.outs.length c4]).below ((Below.refl _ _).alloc (Nat.le_refl _) (.cells #[.string ⟨#[]⟩, .slice none 0 0] 24))
  have nr : BlkA 24 (w.heap.size + 1) ((w.alloc (.cells #[.string (str g.name), .slice (some ⟨ab, ao, none⟩) g.actors.length c1, .slice a2 g.edges.length c2, .slice a3 g.ins.length c3, .slice a4 g.outs.length c4] 31)).alloc (.cells #[.string ⟨#[]⟩, .slice none 0 0] 24)) #[.string ⟨#[]⟩, .slice none 0 0] := by
    have h3 := blkA_new 24 (w.alloc (.cells #[.string (str g.name), .slice (some ⟨ab, ao, none⟩) g.actors.length c1, .slice a2 g.edges.length c2, .slice a3 g.ins.length c3, .slice a4 g.outs.length c4] 31)) #[.string ⟨#[]⟩, .slice none 0 0]
    rw [World.size_alloc] at h3
    exact h3
  have BA := hiddenG ba
  have GB := hiddenG gg
  have NR := hiddenG nr
  have HG := hiddenG h
  have y0 := gg.cell (k := 0) rfl
  have y1 := gg.cell (k := 1) rfl
  have y2 := gg.cell (k := 2) rfl
  have y3 := gg.cell (k := 3) rfl
  have y4 := gg.cell (k := 4) rfl
  have CK := hiddenG (rcheck_any g (some ⟨ab, ao, none⟩) a2 a3 a4 c1 c2 c3 c4 _ (h.below ba))
  have HS := hiddenG ((sound_iff g).1 h0)
  have HO := head_ok HS.out.head
  obtain ⟨RE, hRE⟩ : ∃ R, DrawEnd g w = R := ⟨_, rfl⟩
  rw [hRE]
  have H1 : Hid (∀ e w', (∃ a c M, e = .returned (.tuple #[.agg #[.string (str g.name), .slice a M.length c], .int .i64 0]) ∧ M.map Prod.fst = drawS g ∧ Its w.heap.size w' (.slice a M.length c) M ∧ Below w.heap.size w w') → RE e w') := fun e w' q => by
    rw [← hRE]
    unfold DrawEnd
    rw [if_pos h0]
    exact q
  rw [h0] at CK
  obtain ⟨i0, hi, hz0, hz1, hz2⟩ := info_parts Try.infoIT
  have HJ := hiddenG hi
  have HJ0 := hiddenG hz0
  have HJ1 := hiddenG hz1
  have HJ2 := hiddenG hz2
  clear ba gg nr h h0 hi hz0 hz1 hz2 hRE
  have n1 : (g.actors.length : Int) ≤ 32 := by omega
  have n2 : (g.edges.length : Int) ≤ 96 := by omega
  have n3 : (g.ins.length : Int) ≤ 16 := by omega
  have n4 : (g.outs.length : Int) ≤ 16 := by omega
  have HLM : Hid (g.actors.length ≤ 32 ∧ g.edges.length ≤ 96 ∧ g.ins.length ≤ 16 ∧ g.outs.length ≤ 16) := ⟨HO.2.2.1, HO.2.2.2.1, HO.2.2.2.2.1, HO.2.2.2.2.2⟩
  clear HO
  have NAM : Hid (∀ U j, Below w.heap.size w U → j < g.actors.length → U.cell? ⟨ab, ao + j * 3, none⟩ = some (.string (str (nthA g.actors j).name))) := fun U j hU hj => by
    rcases (HG.out.below hU).A with e | ⟨b, off, e, hc⟩
    · rw [e] at hj; exact absurd hj (Nat.not_lt_zero _)
    · cases e; exact (hc j hj).1
  go_enter Try.func19, Try.ntmps19
  go_upto_region 1 with fail
  generalize (w.alloc (.cells #[.string (str g.name), .slice (some ⟨ab, ao, none⟩) g.actors.length c1, .slice a2 g.edges.length c2, .slice a3 g.ins.length c3, .slice a4 g.outs.length c4] 31)).alloc (.cells #[.string ⟨#[]⟩, .slice none 0 0] 24) = W0 at *
  go_upto_region 4 with (go_at_call 49; (with_reducible refine CK.out.mono ?_); rintro e w1 ⟨rfl, b1⟩; have B1 := hiddenG b1; clear b1 y0 y1 y2 y3 y4)
  have G1 := hiddenG (GB.out.below B1.out)
  have y0 : w1.cell? ⟨w.heap.size, 0, none⟩ = some (.string (str g.name)) := G1.out.cell rfl
  go_upto_region 5 with fail
  have D0 : Hid (DrS w w1.heap.size g (some ⟨ab, ao, none⟩) a2 a3 a4 c1 c2 c3 c4 (.slice none 0 0) [] (w1.alloc (.cells #[.string (str g.name), .slice none 0 0] 24))) := by
    have bw := (Below.refl w1.heap.size w1).alloc (Nat.le_refl _) (.cells #[.string (str g.name), .slice none 0 0] 24)
    have b2 := BA.out.trans (B1.out.mono BA.out.size)
    have rb := NR.out.below B1.out
    exact ⟨G1.out.below bw, rb.below bw, blkA_new 24 w1 _, its_nil _ _, b2.trans (bw.mono b2.size), rb.lt, by rw [World.size_alloc]; exact Nat.le_refl _⟩
  generalize w1.alloc (.cells #[.string (str g.name), .slice none 0 0] 24) = W1 at *
  generalize w1.heap.size = K at *
  clear y0 G1 B1 NR GB BA CK
  have y1 : W1.cell? ⟨w.heap.size, 1, none⟩ = some (.slice (some ⟨ab, ao, none⟩) g.actors.length c1) := D0.out.gb.cell rfl
  go_wp2
  go_loopg [6] g.actors.length (fun gk v wr => ∃ (k : Nat) (va : Option Addr) (vc : Nat) (M : List (Itm × Value)), k ≤ g.actors.length ∧ gk = g.actors.length - k ∧ v = .int .i64 (k : Int) ∧ M.map Prod.fst = [] ++ (g.actors.take k).map drawA ∧ DrS w K g (some ⟨ab, ao, none⟩) a2 a3 a4 c1 c2 c3 c4 (.slice va M.length vc) M wr)
  case atStart => exact ⟨0, none, 0, [], Nat.zero_le _, rfl, rfl, rfl, D0.out⟩
  case round =>
    obtain ⟨k, va, vc, M, hk, rfl, rfl, hM, hD⟩ := hrel
    have DD := hiddenG hD
    have MM := hiddenG hM
    clear hM hD y1
    have LM : M.length ≤ 160 := by
      have q := congrArg List.length MM.out
      have := HLM.out
      simp only [List.length_map, List.length_append, List.length_take, List.length_nil] at q
      omega
    have yy : wr.cell? ⟨w.heap.size, 1, none⟩ = some (.slice (some ⟨ab, ao, none⟩) g.actors.length c1) := DD.out.gb.cell rfl
    by_cases hlt : k < g.actors.length
    · have hki : (k : Int) < (g.actors.length : Int) := by omega
      rcases (HG.out.below (DD.out.bel.mono (Nat.le_refl _))).A with e | ⟨b, off, eA, hc⟩
      · rw [e] at hlt; exact absurd hlt (Nat.not_lt_zero _)
      cases eA
      obtain ⟨k0, k1, k2, x, c, k3, k4⟩ := hc k hlt
      have HAR := hiddenG k4
      have HTG := hiddenG k2
      have TK := hiddenG (take_A hlt)
      generalize nthA g.actors k = E at *
      obtain ⟨nm, tg, ps⟩ := E
      simp only at k0 k1 k3 HAR HTG
      clear hc k2 k4
      go_upto_region 9 with fail
      have bv := (Below.refl wr.heap.size wr).alloc (Nat.le_refl _) (.cells #[.string (str nm), .int .u8 (tg : Int), .slice x ps.length c] 59)
      have DV := hiddenG (DD.out.below bv)
      have BX := hiddenG (blkA_new 59 wr #[.string (str nm), .int .u8 (tg : Int), .slice x ps.length c])
      have HAR2 := hiddenG (HAR.out.below bv)
      clear bv k0 k1 k3
      generalize wr.alloc (.cells #[.string (str nm), .int .u8 (tg : Int), .slice x ps.length c] 59) = Va at *
      have bb0 := BX.out.cell (k := 0) rfl
      have bb1 := BX.out.cell (k := 1) rfl
      have bb2 := BX.out.cell (k := 2) rfl
      simp only [List.getElem_toArray, List.getElem_cons_zero, List.getElem_cons_succ] at bb0 bb1 bb2
      have WD := hiddenG (rword_any tg Va HTG.out)
      go_upto_region 10 with (go_at_call 50; (with_reducible refine WD.out.mono ?_); rintro e V ⟨rfl, bw⟩; have DV2 := hiddenG (DV.out.below bw); have BX2 := hiddenG (BX.out.below bw); have HAR3 := hiddenG (HAR2.out.below bw); clear bw bb0 bb1 bb2)
      have DV := hiddenG DV2.out
      have BX := hiddenG BX2.out
      have CI : Hid (∀ U, Below V.heap.size V U → Calls Try.prog 51 #[.slice x ps.length c] U (CopiedC U ps.length ps)) := fun U hb => ints_own x ps _ c U (HAR3.out.below hb)
      clear DV2 BX2 HAR2 HAR3 WD
      have bb0 := BX.out.cell (k := 0) rfl
      have bb1 := BX.out.cell (k := 1) rfl
      have bb2 := BX.out.cell (k := 2) rfl
      simp only [List.getElem_toArray, List.getElem_cons_zero, List.getElem_cons_succ] at bb0 bb1 bb2
      have kk : V.cell? ⟨K, 1, none⟩ = some (.slice va M.length vc) := DV.out.sb.cell rfl
      have gx1 : V.cell? ⟨w.heap.size, 1, none⟩ = some (.slice (some ⟨ab, ao, none⟩) g.actors.length c1) := DV.out.gb.cell rfl
      refine wp_region_said 10 (fun i u v => match i with
          | 0 => v = .pointer (some ⟨K, 1, none⟩)
          | 1 => v = .slice va M.length vc
          | 2 => v = .pointer (some ⟨wr.heap.size, 0, none⟩)
          | 3 => v = .string (str nm)
          | 4 => v = .string (str (wordE tg).1)
          | 5 => v = .pointer (some ⟨wr.heap.size, 2, none⟩)
          | 6 => v = .slice x ps.length c
          | 7 => NuV V ps u v
          | 8 => ItV V (drawA ⟨nm, tg, ps⟩) u v
          | 9 => ItC V (drawA ⟨nm, tg, ps⟩) u v
          | _ => True) (by kernel_rfl) (by kernel_rfl) (by kernel_rfl) (by kernel_rfl) ?_ ?_ ?_
      · intro i w v w' h hb
        match i, h with
        | 0, h => exact h
        | 1, h => exact h
        | 2, h => exact h
        | 3, h => exact h
        | 4, h => exact h
        | 5, h => exact h
        | 6, h => exact h
        | 7, h => exact NuV.later h hb
        | 8, h => exact ItV.later h hb
        | 9, h => exact ItC.later h hb
        | _ + 10, _ => trivial
      · intro i o ρ w' hi ho hb hc hf hfr hdep
        have kS := cell_keep hb kk
        have b0 := cell_keep hb bb0
        have b1 := cell_keep hb bb1
        have b2 := cell_keep hb bb2
        have g1 := cell_keep hb gx1
        match i, hi with
        | 0, _ =>
          simp only [gTA, gCZ, gSI] at ho
          subst ho
          have ts : ρ (.tmp 5) = .pointer (some ⟨K, 0, none⟩) := hfr 5 (by kernel_rfl)
          simp [go_sem, ts]
          exact ⟨Below.refl _ _, rfl⟩
        | 1, _ =>
          simp only [gTA, gCZ, gCS, gSI] at ho
          subst ho
          have ts : ρ (.tmp 45) = .pointer (some ⟨K, 1, none⟩) := hdep 0 45 (by kernel_rfl) (by kernel_rfl)
          simp [go_sem, ts, kS]
          exact ⟨Below.refl _ _, rfl⟩
        | 2, _ =>
          simp only [gTA, gCZ, gCS, gSI] at ho
          subst ho
          have ts : ρ (.tmp 7) = .pointer (some ⟨wr.heap.size, 0, none⟩) := hfr 7 (by kernel_rfl)
          simp [go_sem, ts]
          exact ⟨Below.refl _ _, rfl⟩
        | 3, _ =>
          simp only [gTA, gCZ, gCS, gSI] at ho
          subst ho
          have ts : ρ (.tmp 47) = .pointer (some ⟨wr.heap.size, 0, none⟩) := hdep 2 47 (by kernel_rfl) (by kernel_rfl)
          simp [go_sem, ts, b0]
          exact ⟨Below.refl _ _, rfl⟩
        | 4, _ =>
          simp only [gTA, gCZ, gCS, gSI] at ho
          subst ho
          have ts : ρ (.tmp 8) = .string (str (wordE tg).1) := hfr 8 (by kernel_rfl)
          simp [go_sem, ts]
          exact ⟨Below.refl _ _, rfl⟩
        | 5, _ =>
          simp only [gTA, gCZ, gCS, gSI] at ho
          subst ho
          have ts : ρ (.tmp 7) = .pointer (some ⟨wr.heap.size, 0, none⟩) := hfr 7 (by kernel_rfl)
          simp [go_sem, ts]
          exact ⟨Below.refl _ _, rfl⟩
        | 6, _ =>
          simp only [gTA, gCZ, gCS, gSI] at ho
          subst ho
          have ts : ρ (.tmp 50) = .pointer (some ⟨wr.heap.size, 2, none⟩) := hdep 5 50 (by kernel_rfl) (by kernel_rfl)
          simp [go_sem, ts, b2]
          exact ⟨Below.refl _ _, rfl⟩
        | 7, _ =>
          simp only [gTA, gCZ, gCS, gSI] at ho
          subst ho
          have t0 : ρ (.tmp 51) = .slice x ps.length c := hdep 6 51 (by kernel_rfl) (by kernel_rfl)
          simp [go_sem, t0, hf]
          exact ⟨rfl, (CI.out w' hb).mono fun e w'' hh => nuV_of hh hb.size⟩
        | 8, _ =>
          simp only [gTA, gCZ, gCS, gSI] at ho
          subst ho
          have t0 : ρ (.tmp 48) = .string (str nm) := hdep 3 48 (by kernel_rfl) (by kernel_rfl)
          have t1 : ρ (.tmp 49) = .string (str (wordE tg).1) := hdep 4 49 (by kernel_rfl) (by kernel_rfl)
          obtain ⟨qa, qc, e3, h3⟩ : NuV V ps w' (ρ (.tmp 52)) := hdep 7 52 (by kernel_rfl) (by kernel_rfl)
          simp [go_sem, t0, t1, e3, hc]
          exact ⟨Below.refl _ _, qa, qc, rfl, h3⟩
        | 9, _ =>
          simp only [gTA, gCZ, gCS, gSI] at ho
          subst ho
          obtain ⟨qa, qc, e3, h3⟩ : ItV V (drawA ⟨nm, tg, ps⟩) w' (ρ (.tmp 53)) := hdep 8 53 (by kernel_rfl) (by kernel_rfl)
          simp [go_sem, e3, itC]
          exact ⟨(Below.refl _ _).alloc (Nat.le_refl _) _, itC_new h3 _⟩
      · intro V9 w9 q9 hS
        have e0 : V9 0 = .pointer (some ⟨K, 1, none⟩) := hS 0 (by decide)
        have e1 : V9 1 = .slice va M.length vc := hS 1 (by decide)
        have e2 : V9 2 = .pointer (some ⟨wr.heap.size, 0, none⟩) := hS 2 (by decide)
        have e3 : V9 3 = .string (str nm) := hS 3 (by decide)
        have e4 : V9 4 = .string (str (wordE tg).1) := hS 4 (by decide)
        have e5 : V9 5 = .pointer (some ⟨wr.heap.size, 2, none⟩) := hS 5 (by decide)
        have e6 : V9 6 = .slice x ps.length c := hS 6 (by decide)
        obtain ⟨qa7, qc7, e7, -⟩ : NuV V ps w9 (V9 7) := hS 7 (by decide)
        obtain ⟨qa8, qc8, e8, -⟩ : ItV V (drawA ⟨nm, tg, ps⟩) w9 (V9 8) := hS 8 (by decide)
        obtain ⟨hx, qa, qc, e9, Q1, Q2⟩ : ItC V (drawA ⟨nm, tg, ps⟩) w9 (V9 9) := hS 9 (by decide)
        simp only [List.drop_succ_cons, List.drop_zero, List.take_succ_cons, List.take_zero, puts, e0, e1, e2, e3, e4, e5, e6, e7, e8, e9]
        clear hS e0 e1 e2 e3 e4 e5 e6 e7 e8 e9 V9
        simp only [Act.put, List.setIfInBounds_toArray, List.set_cons_zero, List.set_cons_succ]
        have D9 := hiddenG DV.out
        have B9 := hiddenG q9
        have C9 := hiddenG Q1
        have N9 := hiddenG Q2
        clear Q1 Q2 q9 DV bb0 bb1 bb2 gx1 kk
        go_wp2_with (at_builtin; refine wpList_append_told _ rfl (.tmp 46) (.tmp 54) 22 rfl (K + 1) 50 i0 (.agg #[.int .u8 0, .string ⟨#[]⟩, .string ⟨#[]⟩, .slice none 0 0, .string ⟨#[]⟩, .int .i64 0, .int .i64 0, .string ⟨#[]⟩, .int .i64 0, .int .i64 0, .int .i64 0]) 11 136 Try.underlying22 HJ.out HJ0.out HJ1.out HJ2.out rfl (by decide) (.slice va M.length vc) M.length (M.flatMap itP) rfl (owns_below D9.out.its.row B9.out) ⟨hx, 0, none⟩ 1 1 (by decide) (itP ((drawA ⟨nm, tg, ps⟩), .slice qa (drawA ⟨nm, tg, ps⟩).nums.length qc)) rfl rfl (fun j u hu => by rw [add_zero5]; exact C9.out j u hu) (itP_one _ _ _ _) (by unfold maxLen; omega) (by omega) (Nat.le_trans D9.out.big B9.out.size) ?_; intro v' w4 ho ht; obtain ⟨D10, bk⟩ := D9.out.put B9.out (x := (drawA ⟨nm, tg, ps⟩)) (q := .slice qa (drawA ⟨nm, tg, ps⟩).nums.length qc) N9.out ho ht; obtain ⟨va4, vc4, rfl⟩ := told_shape ht; have E10 := hiddenG D10; have s1 : w4.cell? ⟨K, 1, none⟩ = some (.slice va M.length vc) := bk.cell rfl; have f1 := bk.frozen 1; clear ho ht D10 bk)
        go_roundg (g.actors.length - (k + 1))
        case measure => omega
        case rel => exact ⟨k + 1, va4, vc4, M ++ [((drawA ⟨nm, tg, ps⟩), .slice qa (drawA ⟨nm, tg, ps⟩).nums.length qc)], by omega, rfl, by go_num, by rw [List.map_append, MM.out, TK.out, List.map_append, List.append_assoc]; rfl, by rw [List.length_append]; exact E10.out⟩
    · have ek : k = g.actors.length := by omega
      have MM0 : Hid (M.map Prod.fst = [] ++ g.actors.map drawA) := by
        have e := MM.out
        rw [ek, List.take_length] at e
        exact e
      have hki : ¬ (k : Int) < (g.actors.length : Int) := by omega
      clear MM ek
      have y2 : wr.cell? ⟨w.heap.size, 2, none⟩ = some (.slice a2 g.edges.length c2) := DD.out.gb.cell rfl
      go_wp2
      go_loopg [10] g.edges.length (fun gk v wr => ∃ (k : Nat) (va : Option Addr) (vc : Nat) (M : List (Itm × Value)), k ≤ g.edges.length ∧ gk = g.edges.length - k ∧ v = .int .i64 (k : Int) ∧ M.map Prod.fst = g.actors.map drawA ++ (g.edges.take k).map (drawE g) ∧ DrS w K g (some ⟨ab, ao, none⟩) a2 a3 a4 c1 c2 c3 c4 (.slice va M.length vc) M wr)
      case atStart => exact ⟨0, va, vc, M, Nat.zero_le _, rfl, rfl, by rw [List.take_zero, List.map_nil, List.append_nil]; exact MM0.out, DD.out⟩
      case round =>
        obtain ⟨k, va, vc, M, hk, rfl, rfl, hM, hD⟩ := hrel
        have DD := hiddenG hD
        have MM := hiddenG hM
        clear hM hD y2
        have LM : M.length ≤ 160 := by
          have q := congrArg List.length MM.out
          have := HLM.out
          simp only [List.length_map, List.length_append, List.length_take] at q
          omega
        have yy : wr.cell? ⟨w.heap.size, 2, none⟩ = some (.slice a2 g.edges.length c2) := DD.out.gb.cell rfl
        by_cases hlt : k < g.edges.length
        · have hki : (k : Int) < (g.edges.length : Int) := by omega
          rcases (HG.out.below (DD.out.bel.mono (Nat.le_refl _))).E with e | ⟨b, off, eE, hc⟩
          · rw [e] at hlt; exact absurd hlt (Nat.not_lt_zero _)
          obtain ⟨k0, k1, k2, k3, x, c, k4, k5⟩ := hc k hlt
          have HAR := hiddenG k5
          have HEK := (edge_ok (HS.out.edges k hlt)).1
          have TK := hiddenG (take_E hlt)
          generalize nthE g.edges k = E at *
          obtain ⟨ef, efp, et, etp, zs⟩ := E
          simp only at k0 k1 k2 k3 k4 HAR
          have hf0 := HEK.f0
          have hf1 := HEK.f1
          have ht0 := HEK.t0
          have ht1 := HEK.t1
          simp only at hf0 hf1 ht0 ht1
          obtain ⟨jf, rfl⟩ : ∃ i : Nat, ef = (i : Int) := ⟨ef.toNat, by omega⟩
          obtain ⟨jt, rfl⟩ : ∃ i : Nat, et = (i : Int) := ⟨et.toNat, by omega⟩
          have hjf : jf < g.actors.length := by omega
          have hjt : jt < g.actors.length := by omega
          clear hc k5 hf0 hf1 ht0 ht1 HEK
          subst eE
          go_upto_region 15 with fail
          have bv := (Below.refl wr.heap.size wr).alloc (Nat.le_refl _) (.cells #[.int .i64 (jf : Int), .int .i64 efp, .int .i64 (jt : Int), .int .i64 etp, .slice x zs.length c] 54)
          have DV := hiddenG (DD.out.below bv)
          have BX := hiddenG (blkA_new 54 wr #[.int .i64 (jf : Int), .int .i64 efp, .int .i64 (jt : Int), .int .i64 etp, .slice x zs.length c])
          have HAR2 := hiddenG (HAR.out.below bv)
          clear bv k0 k1 k2 k3 k4
          generalize wr.alloc (.cells #[.int .i64 (jf : Int), .int .i64 efp, .int .i64 (jt : Int), .int .i64 etp, .slice x zs.length c] 54) = Va at *
          have bb0 := BX.out.cell (k := 0) rfl
          have bb1 := BX.out.cell (k := 1) rfl
          have bb2 := BX.out.cell (k := 2) rfl
          have bb3 := BX.out.cell (k := 3) rfl
          have bb4 := BX.out.cell (k := 4) rfl
          simp only [List.getElem_toArray, List.getElem_cons_zero, List.getElem_cons_succ] at bb0 bb1 bb2 bb3 bb4
          have gx1 : Va.cell? ⟨w.heap.size, 1, none⟩ = some (.slice (some ⟨ab, ao, none⟩) g.actors.length c1) := DV.out.gb.cell rfl
          have nx := NAM.out Va jf DV.out.bel hjf
          refine wp_region_said 11 (fun i u v => match i with
              | 0 => v = .pointer (some ⟨w.heap.size, 1, none⟩)
              | 1 => v = .slice (some ⟨ab, ao, none⟩) g.actors.length c1
              | 2 => v = .pointer (some ⟨wr.heap.size, 0, none⟩)
              | 3 => v = .int .i64 (jf : Int)
              | 4 => v = .pointer (some ⟨ab, ao + jf * 3, none⟩)
              | 5 => v = .pointer (some ⟨ab, ao + jf * 3, none⟩)
              | 6 => v = .string (str (nthA g.actors jf).name)
              | 7 => v = .pointer (some ⟨wr.heap.size, 1, none⟩)
              | 8 => v = .int .i64 efp
              | 9 => v = .agg #[.string (str (nthA g.actors jf).name), .int .i64 efp, .int .i64 0]
              | 10 => NewD Va.heap.size 48 #[.string ⟨#[]⟩, .int .i64 0, .int .i64 0] u v
              | _ => True) (by kernel_rfl) (by kernel_rfl) (by kernel_rfl) (by kernel_rfl) ?_ ?_ ?_
          · intro i w v w' h hb
            match i, h with
            | 0, h => exact h
            | 1, h => exact h
            | 2, h => exact h
            | 3, h => exact h
            | 4, h => exact h
            | 5, h => exact h
            | 6, h => exact h
            | 7, h => exact h
            | 8, h => exact h
            | 9, h => exact h
            | 10, h => exact h.later hb
            | _ + 11, _ => trivial
          · intro i o ρ w' hi ho hb hc hf hfr hdep
            have b0 := cell_keep hb bb0
            have b1 := cell_keep hb bb1
            have b2 := cell_keep hb bb2
            have b3 := cell_keep hb bb3
            have b4 := cell_keep hb bb4
            have g1 := cell_keep hb gx1
            have nj := cell_keep hb nx
            match i, hi with
            | 0, _ =>
              simp only [gTA, gCZ, gSI] at ho
              subst ho
              have ts : ρ (.tmp 1) = .pointer (some ⟨w.heap.size, 0, none⟩) := hfr 1 (by kernel_rfl)
              simp [go_sem, ts]
              exact ⟨Below.refl _ _, rfl⟩
            | 1, _ =>
              simp only [gTA, gCZ, gCS, gSI] at ho
              subst ho
              have ts : ρ (.tmp 69) = .pointer (some ⟨w.heap.size, 1, none⟩) := hdep 0 69 (by kernel_rfl) (by kernel_rfl)
              simp [go_sem, ts, g1]
              exact ⟨Below.refl _ _, rfl⟩
            | 2, _ =>
              simp only [gTA, gCZ, gCS, gSI] at ho
              subst ho
              have ts : ρ (.tmp 11) = .pointer (some ⟨wr.heap.size, 0, none⟩) := hfr 11 (by kernel_rfl)
              simp [go_sem, ts]
              exact ⟨Below.refl _ _, rfl⟩
            | 3, _ =>
              simp only [gTA, gCZ, gCS, gSI] at ho
              subst ho
              have ts : ρ (.tmp 71) = .pointer (some ⟨wr.heap.size, 0, none⟩) := hdep 2 71 (by kernel_rfl) (by kernel_rfl)
              simp [go_sem, ts, b0]
              exact ⟨Below.refl _ _, rfl⟩
            | 4, _ =>
              simp only [gTA, gCZ, gCS, gSI] at ho
              subst ho
              have t0 : ρ (.tmp 70) = .slice (some ⟨ab, ao, none⟩) g.actors.length c1 := hdep 1 70 (by kernel_rfl) (by kernel_rfl)
              have t1 : ρ (.tmp 72) = .int .i64 (jf : Int) := hdep 3 72 (by kernel_rfl) (by kernel_rfl)
              simp [go_sem, t0, t1, hjf]
              exact ⟨Below.refl _ _, rfl⟩
            | 5, _ =>
              simp only [gTA, gCZ, gCS, gSI] at ho
              subst ho
              have t0 : ρ (.tmp 73) = .pointer (some ⟨ab, ao + jf * 3, none⟩) := hdep 4 73 (by kernel_rfl) (by kernel_rfl)
              simp [go_sem, t0]
              exact ⟨Below.refl _ _, rfl⟩
            | 6, _ =>
              simp only [gTA, gCZ, gCS, gSI] at ho
              subst ho
              have ts : ρ (.tmp 74) = .pointer (some ⟨ab, ao + jf * 3, none⟩) := hdep 5 74 (by kernel_rfl) (by kernel_rfl)
              simp [go_sem, ts, nj]
              exact ⟨Below.refl _ _, rfl⟩
            | 7, _ =>
              simp only [gTA, gCZ, gCS, gSI] at ho
              subst ho
              have ts : ρ (.tmp 11) = .pointer (some ⟨wr.heap.size, 0, none⟩) := hfr 11 (by kernel_rfl)
              simp [go_sem, ts]
              exact ⟨Below.refl _ _, rfl⟩
            | 8, _ =>
              simp only [gTA, gCZ, gCS, gSI] at ho
              subst ho
              have ts : ρ (.tmp 76) = .pointer (some ⟨wr.heap.size, 1, none⟩) := hdep 7 76 (by kernel_rfl) (by kernel_rfl)
              simp [go_sem, ts, b1]
              exact ⟨Below.refl _ _, rfl⟩
            | 9, _ =>
              simp only [gTA, gCZ, gCS, gSI] at ho
              subst ho
              have t0 : ρ (.tmp 75) = .string (str (nthA g.actors jf).name) := hdep 6 75 (by kernel_rfl) (by kernel_rfl)
              have t1 : ρ (.tmp 77) = .int .i64 efp := hdep 8 77 (by kernel_rfl) (by kernel_rfl)
              simp [go_sem, t0, t1]
              exact ⟨Below.refl _ _, rfl⟩
            | 10, _ =>
              simp only [gTA, gCZ, gCS, gSI] at ho
              subst ho
              simp [go_sem]
              exact ⟨(Below.refl _ _).alloc (Nat.le_refl _) _, w'.heap.size, rfl, hb.size, blkA_new 48 w' #[.string ⟨#[]⟩, .int .i64 0, .int .i64 0]⟩
          · intro V9 w9 q9 hS
            have e0 : V9 0 = .pointer (some ⟨w.heap.size, 1, none⟩) := hS 0 (by decide)
            have e1 : V9 1 = .slice (some ⟨ab, ao, none⟩) g.actors.length c1 := hS 1 (by decide)
            have e2 : V9 2 = .pointer (some ⟨wr.heap.size, 0, none⟩) := hS 2 (by decide)
            have e3 : V9 3 = .int .i64 (jf : Int) := hS 3 (by decide)
            have e4 : V9 4 = .pointer (some ⟨ab, ao + jf * 3, none⟩) := hS 4 (by decide)
            have e5 : V9 5 = .pointer (some ⟨ab, ao + jf * 3, none⟩) := hS 5 (by decide)
            have e6 : V9 6 = .string (str (nthA g.actors jf).name) := hS 6 (by decide)
            have e7 : V9 7 = .pointer (some ⟨wr.heap.size, 1, none⟩) := hS 7 (by decide)
            have e8 : V9 8 = .int .i64 efp := hS 8 (by decide)
            have e9 : V9 9 = .agg #[.string (str (nthA g.actors jf).name), .int .i64 efp, .int .i64 0] := hS 9 (by decide)
            obtain ⟨nb9, e10, hx9, XB9⟩ : NewD Va.heap.size 48 #[.string ⟨#[]⟩, .int .i64 0, .int .i64 0] w9 (V9 10) := hS 10 (by decide)
            simp only [List.drop_succ_cons, List.drop_zero, List.take_succ_cons, List.take_zero, puts, e0, e1, e2, e3, e4, e5, e6, e7, e8, e9, e10]
            clear hS e0 e1 e2 e3 e4 e5 e6 e7 e8 e9 e10 V9
            simp only [Act.put, List.setIfInBounds_toArray, List.set_cons_zero, List.set_cons_succ]
            have XX := hiddenG XB9
            have Q9 := hiddenG q9
            clear XB9 q9 bb0 bb1 bb2 bb3 bb4 gx1 nx
            go_upto_region 16 with (refine wpList_storeW _ rfl 48 (.tmp 12) (.tmp 78) rfl rfl nb9 48 _ _ rfl rfl XX.out sizQ rfl rfl ?_; intro Vb hN hU; have Xpf := hiddenG hN; have U5 := hiddenG hU; clear hN hU)
            have LV := hiddenG (Q9.out.trans (U5.out.below hx9 Q9.out.size))
            have DV2 := hiddenG (DV.out.below LV.out)
            have BX2 := hiddenG (BX.out.below LV.out)
            have HAR3 := hiddenG (HAR2.out.below LV.out)
            clear DV BX HAR2 XX Q9 U5 LV
            have DV := hiddenG DV2.out
            have BX := hiddenG BX2.out
            have HAR2 := hiddenG HAR3.out
            obtain ⟨pf, hpf⟩ : ∃ z, nb9 = z := ⟨_, rfl⟩
            rw [hpf] at Xpf ⊢
            clear DV2 BX2 HAR3 hpf hx9
            have bb0 := BX.out.cell (k := 0) rfl
            have bb1 := BX.out.cell (k := 1) rfl
            have bb2 := BX.out.cell (k := 2) rfl
            have bb3 := BX.out.cell (k := 3) rfl
            have bb4 := BX.out.cell (k := 4) rfl
            simp only [List.getElem_toArray, List.getElem_cons_zero, List.getElem_cons_succ] at bb0 bb1 bb2 bb3 bb4
            have gx1 : Vb.cell? ⟨w.heap.size, 1, none⟩ = some (.slice (some ⟨ab, ao, none⟩) g.actors.length c1) := DV.out.gb.cell rfl
            have nx := NAM.out Vb jt DV.out.bel hjt
            refine wp_region_said 11 (fun i u v => match i with
                | 0 => v = .pointer (some ⟨w.heap.size, 1, none⟩)
                | 1 => v = .slice (some ⟨ab, ao, none⟩) g.actors.length c1
                | 2 => v = .pointer (some ⟨wr.heap.size, 2, none⟩)
                | 3 => v = .int .i64 (jt : Int)
                | 4 => v = .pointer (some ⟨ab, ao + jt * 3, none⟩)
                | 5 => v = .pointer (some ⟨ab, ao + jt * 3, none⟩)
                | 6 => v = .string (str (nthA g.actors jt).name)
                | 7 => v = .pointer (some ⟨wr.heap.size, 3, none⟩)
                | 8 => v = .int .i64 etp
                | 9 => v = .agg #[.string (str (nthA g.actors jt).name), .int .i64 etp, .int .i64 0]
                | 10 => NewD Vb.heap.size 48 #[.string ⟨#[]⟩, .int .i64 0, .int .i64 0] u v
                | _ => True) (by kernel_rfl) (by kernel_rfl) (by kernel_rfl) (by kernel_rfl) ?_ ?_ ?_
            · intro i w v w' h hb
              match i, h with
              | 0, h => exact h
              | 1, h => exact h
              | 2, h => exact h
              | 3, h => exact h
              | 4, h => exact h
              | 5, h => exact h
              | 6, h => exact h
              | 7, h => exact h
              | 8, h => exact h
              | 9, h => exact h
              | 10, h => exact h.later hb
              | _ + 11, _ => trivial
            · intro i o ρ w' hi ho hb hc hf hfr hdep
              have b0 := cell_keep hb bb0
              have b1 := cell_keep hb bb1
              have b2 := cell_keep hb bb2
              have b3 := cell_keep hb bb3
              have b4 := cell_keep hb bb4
              have g1 := cell_keep hb gx1
              have nj := cell_keep hb nx
              match i, hi with
              | 0, _ =>
                simp only [gTA, gCZ, gSI] at ho
                subst ho
                have ts : ρ (.tmp 1) = .pointer (some ⟨w.heap.size, 0, none⟩) := hfr 1 (by kernel_rfl)
                simp [go_sem, ts]
                exact ⟨Below.refl _ _, rfl⟩
              | 1, _ =>
                simp only [gTA, gCZ, gCS, gSI] at ho
                subst ho
                have ts : ρ (.tmp 79) = .pointer (some ⟨w.heap.size, 1, none⟩) := hdep 0 79 (by kernel_rfl) (by kernel_rfl)
                simp [go_sem, ts, g1]
                exact ⟨Below.refl _ _, rfl⟩
              | 2, _ =>
                simp only [gTA, gCZ, gCS, gSI] at ho
                subst ho
                have ts : ρ (.tmp 11) = .pointer (some ⟨wr.heap.size, 0, none⟩) := hfr 11 (by kernel_rfl)
                simp [go_sem, ts]
                exact ⟨Below.refl _ _, rfl⟩
              | 3, _ =>
                simp only [gTA, gCZ, gCS, gSI] at ho
                subst ho
                have ts : ρ (.tmp 81) = .pointer (some ⟨wr.heap.size, 2, none⟩) := hdep 2 81 (by kernel_rfl) (by kernel_rfl)
                simp [go_sem, ts, b2]
                exact ⟨Below.refl _ _, rfl⟩
              | 4, _ =>
                simp only [gTA, gCZ, gCS, gSI] at ho
                subst ho
                have t0 : ρ (.tmp 80) = .slice (some ⟨ab, ao, none⟩) g.actors.length c1 := hdep 1 80 (by kernel_rfl) (by kernel_rfl)
                have t1 : ρ (.tmp 82) = .int .i64 (jt : Int) := hdep 3 82 (by kernel_rfl) (by kernel_rfl)
                simp [go_sem, t0, t1, hjt]
                exact ⟨Below.refl _ _, rfl⟩
              | 5, _ =>
                simp only [gTA, gCZ, gCS, gSI] at ho
                subst ho
                have t0 : ρ (.tmp 83) = .pointer (some ⟨ab, ao + jt * 3, none⟩) := hdep 4 83 (by kernel_rfl) (by kernel_rfl)
                simp [go_sem, t0]
                exact ⟨Below.refl _ _, rfl⟩
              | 6, _ =>
                simp only [gTA, gCZ, gCS, gSI] at ho
                subst ho
                have ts : ρ (.tmp 84) = .pointer (some ⟨ab, ao + jt * 3, none⟩) := hdep 5 84 (by kernel_rfl) (by kernel_rfl)
                simp [go_sem, ts, nj]
                exact ⟨Below.refl _ _, rfl⟩
              | 7, _ =>
                simp only [gTA, gCZ, gCS, gSI] at ho
                subst ho
                have ts : ρ (.tmp 11) = .pointer (some ⟨wr.heap.size, 0, none⟩) := hfr 11 (by kernel_rfl)
                simp [go_sem, ts]
                exact ⟨Below.refl _ _, rfl⟩
              | 8, _ =>
                simp only [gTA, gCZ, gCS, gSI] at ho
                subst ho
                have ts : ρ (.tmp 86) = .pointer (some ⟨wr.heap.size, 3, none⟩) := hdep 7 86 (by kernel_rfl) (by kernel_rfl)
                simp [go_sem, ts, b3]
                exact ⟨Below.refl _ _, rfl⟩
              | 9, _ =>
                simp only [gTA, gCZ, gCS, gSI] at ho
                subst ho
                have t0 : ρ (.tmp 85) = .string (str (nthA g.actors jt).name) := hdep 6 85 (by kernel_rfl) (by kernel_rfl)
                have t1 : ρ (.tmp 87) = .int .i64 etp := hdep 8 87 (by kernel_rfl) (by kernel_rfl)
                simp [go_sem, t0, t1]
                exact ⟨Below.refl _ _, rfl⟩
              | 10, _ =>
                simp only [gTA, gCZ, gCS, gSI] at ho
                subst ho
                simp [go_sem]
                exact ⟨(Below.refl _ _).alloc (Nat.le_refl _) _, w'.heap.size, rfl, hb.size, blkA_new 48 w' #[.string ⟨#[]⟩, .int .i64 0, .int .i64 0]⟩
            · intro V9 w9 q9 hS
              have e0 : V9 0 = .pointer (some ⟨w.heap.size, 1, none⟩) := hS 0 (by decide)
              have e1 : V9 1 = .slice (some ⟨ab, ao, none⟩) g.actors.length c1 := hS 1 (by decide)
              have e2 : V9 2 = .pointer (some ⟨wr.heap.size, 2, none⟩) := hS 2 (by decide)
              have e3 : V9 3 = .int .i64 (jt : Int) := hS 3 (by decide)
              have e4 : V9 4 = .pointer (some ⟨ab, ao + jt * 3, none⟩) := hS 4 (by decide)
              have e5 : V9 5 = .pointer (some ⟨ab, ao + jt * 3, none⟩) := hS 5 (by decide)
              have e6 : V9 6 = .string (str (nthA g.actors jt).name) := hS 6 (by decide)
              have e7 : V9 7 = .pointer (some ⟨wr.heap.size, 3, none⟩) := hS 7 (by decide)
              have e8 : V9 8 = .int .i64 etp := hS 8 (by decide)
              have e9 : V9 9 = .agg #[.string (str (nthA g.actors jt).name), .int .i64 etp, .int .i64 0] := hS 9 (by decide)
              obtain ⟨nb9, e10, hx9, XB9⟩ : NewD Vb.heap.size 48 #[.string ⟨#[]⟩, .int .i64 0, .int .i64 0] w9 (V9 10) := hS 10 (by decide)
              simp only [List.drop_succ_cons, List.drop_zero, List.take_succ_cons, List.take_zero, puts, e0, e1, e2, e3, e4, e5, e6, e7, e8, e9, e10]
              clear hS e0 e1 e2 e3 e4 e5 e6 e7 e8 e9 e10 V9
              simp only [Act.put, List.setIfInBounds_toArray, List.set_cons_zero, List.set_cons_succ]
              have XX := hiddenG XB9
              have Q9 := hiddenG q9
              clear XB9 q9 bb0 bb1 bb2 bb3 bb4 gx1 nx
              go_upto_region 17 with (refine wpList_storeW _ rfl 48 (.tmp 13) (.tmp 88) rfl rfl nb9 48 _ _ rfl rfl XX.out sizQ rfl rfl ?_; intro V hN hU; have Xpt := hiddenG hN; have U5 := hiddenG hU; clear hN hU)
              have LV := hiddenG (Q9.out.trans (U5.out.below hx9 Q9.out.size))
              have DV2 := hiddenG (DV.out.below LV.out)
              have BX2 := hiddenG (BX.out.below LV.out)
              have HAR3 := hiddenG (HAR2.out.below LV.out)
              have Xpf2 := hiddenG (Xpf.out.below LV.out)
              clear DV BX HAR2 XX Q9 U5 LV
              have DV := hiddenG DV2.out
              have BX := hiddenG BX2.out
              have HAR2 := hiddenG HAR3.out
              obtain ⟨pt, hpt⟩ : ∃ z, nb9 = z := ⟨_, rfl⟩
              rw [hpt] at Xpt ⊢
              clear DV2 BX2 HAR3 hpt hx9
              have CI : Hid (∀ U, Below V.heap.size V U → Calls Try.prog 51 #[.slice x zs.length c] U (CopiedC U zs.length zs)) := fun U hb => ints_own x zs _ c U (HAR2.out.below hb)
              have pp0 := Xpf2.out.cell (k := 0) rfl
              have pp1 := Xpf2.out.cell (k := 1) rfl
              have pp2 := Xpf2.out.cell (k := 2) rfl
              have rr0 := Xpt.out.cell (k := 0) rfl
              have rr1 := Xpt.out.cell (k := 1) rfl
              have rr2 := Xpt.out.cell (k := 2) rfl
              simp only [List.getElem_toArray, List.getElem_cons_zero, List.getElem_cons_succ] at pp0 pp1 pp2 rr0 rr1 rr2
              have bb0 := BX.out.cell (k := 0) rfl
              have bb1 := BX.out.cell (k := 1) rfl
              have bb2 := BX.out.cell (k := 2) rfl
              have bb3 := BX.out.cell (k := 3) rfl
              have bb4 := BX.out.cell (k := 4) rfl
              simp only [List.getElem_toArray, List.getElem_cons_zero, List.getElem_cons_succ] at bb0 bb1 bb2 bb3 bb4
              have kk : V.cell? ⟨K, 1, none⟩ = some (.slice va M.length vc) := DV.out.sb.cell rfl
              have gx1 : V.cell? ⟨w.heap.size, 1, none⟩ = some (.slice (some ⟨ab, ao, none⟩) g.actors.length c1) := DV.out.gb.cell rfl
              refine wp_region_said 9 (fun i u v => match i with
                  | 0 => v = .pointer (some ⟨K, 1, none⟩)
                  | 1 => v = .slice va M.length vc
                  | 2 => v = .agg #[.string (str (nthA g.actors jf).name), .int .i64 efp, .int .i64 0]
                  | 3 => v = .agg #[.string (str (nthA g.actors jt).name), .int .i64 etp, .int .i64 0]
                  | 4 => v = .pointer (some ⟨wr.heap.size, 4, none⟩)
                  | 5 => v = .slice x zs.length c
                  | 6 => NuV V zs u v
                  | 7 => ItV V (drawE g ⟨(jf : Int), efp, (jt : Int), etp, zs⟩) u v
                  | 8 => ItC V (drawE g ⟨(jf : Int), efp, (jt : Int), etp, zs⟩) u v
                  | _ => True) (by kernel_rfl) (by kernel_rfl) (by kernel_rfl) (by kernel_rfl) ?_ ?_ ?_
              · intro i w v w' h hb
                match i, h with
                | 0, h => exact h
                | 1, h => exact h
                | 2, h => exact h
                | 3, h => exact h
                | 4, h => exact h
                | 5, h => exact h
                | 6, h => exact NuV.later h hb
                | 7, h => exact ItV.later h hb
                | 8, h => exact ItC.later h hb
                | _ + 9, _ => trivial
              · intro i o ρ w' hi ho hb hc hf hfr hdep
                have kS := cell_keep hb kk
                have b0 := cell_keep hb bb0
                have b1 := cell_keep hb bb1
                have b2 := cell_keep hb bb2
                have b3 := cell_keep hb bb3
                have b4 := cell_keep hb bb4
                have g1 := cell_keep hb gx1
                have p0 := cell_keep hb pp0
                have p1 := cell_keep hb pp1
                have p2 := cell_keep hb pp2
                have r0 := cell_keep hb rr0
                have r1 := cell_keep hb rr1
                have r2 := cell_keep hb rr2
                match i, hi with
                | 0, _ =>
                  simp only [gTA, gCZ, gSI] at ho
                  subst ho
                  have ts : ρ (.tmp 5) = .pointer (some ⟨K, 0, none⟩) := hfr 5 (by kernel_rfl)
                  simp [go_sem, ts]
                  exact ⟨Below.refl _ _, rfl⟩
                | 1, _ =>
                  simp only [gTA, gCZ, gCS, gSI] at ho
                  subst ho
                  have ts : ρ (.tmp 89) = .pointer (some ⟨K, 1, none⟩) := hdep 0 89 (by kernel_rfl) (by kernel_rfl)
                  simp [go_sem, ts, kS]
                  exact ⟨Below.refl _ _, rfl⟩
                | 2, _ =>
                  simp only [gTA, gCZ, gCS, gSI] at ho
                  subst ho
                  have ts : ρ (.tmp 12) = .pointer (some ⟨pf, 0, none⟩) := hfr 12 (by kernel_rfl)
                  simp [go_sem, ts, p0, p1, p2]
                  exact ⟨Below.refl _ _, rfl⟩
                | 3, _ =>
                  simp only [gTA, gCZ, gCS, gSI] at ho
                  subst ho
                  have ts : ρ (.tmp 13) = .pointer (some ⟨pt, 0, none⟩) := hfr 13 (by kernel_rfl)
                  simp [go_sem, ts, r0, r1, r2]
                  exact ⟨Below.refl _ _, rfl⟩
                | 4, _ =>
                  simp only [gTA, gCZ, gCS, gSI] at ho
                  subst ho
                  have ts : ρ (.tmp 11) = .pointer (some ⟨wr.heap.size, 0, none⟩) := hfr 11 (by kernel_rfl)
                  simp [go_sem, ts]
                  exact ⟨Below.refl _ _, rfl⟩
                | 5, _ =>
                  simp only [gTA, gCZ, gCS, gSI] at ho
                  subst ho
                  have ts : ρ (.tmp 93) = .pointer (some ⟨wr.heap.size, 4, none⟩) := hdep 4 93 (by kernel_rfl) (by kernel_rfl)
                  simp [go_sem, ts, b4]
                  exact ⟨Below.refl _ _, rfl⟩
                | 6, _ =>
                  simp only [gTA, gCZ, gCS, gSI] at ho
                  subst ho
                  have t0 : ρ (.tmp 94) = .slice x zs.length c := hdep 5 94 (by kernel_rfl) (by kernel_rfl)
                  simp [go_sem, t0, hf]
                  exact ⟨rfl, (CI.out w' hb).mono fun e w'' hh => nuV_of hh hb.size⟩
                | 7, _ =>
                  simp only [gTA, gCZ, gCS, gSI] at ho
                  subst ho
                  have t0 : ρ (.tmp 91) = .agg #[.string (str (nthA g.actors jf).name), .int .i64 efp, .int .i64 0] := hdep 2 91 (by kernel_rfl) (by kernel_rfl)
                  have t1 : ρ (.tmp 92) = .agg #[.string (str (nthA g.actors jt).name), .int .i64 etp, .int .i64 0] := hdep 3 92 (by kernel_rfl) (by kernel_rfl)
                  obtain ⟨qa, qc, e3, h3⟩ : NuV V zs w' (ρ (.tmp 95)) := hdep 6 95 (by kernel_rfl) (by kernel_rfl)
                  simp [go_sem, t0, t1, e3, hc]
                  exact ⟨Below.refl _ _, qa, qc, rfl, h3⟩
                | 8, _ =>
                  simp only [gTA, gCZ, gCS, gSI] at ho
                  subst ho
                  obtain ⟨qa, qc, e3, h3⟩ : ItV V (drawE g ⟨(jf : Int), efp, (jt : Int), etp, zs⟩) w' (ρ (.tmp 96)) := hdep 7 96 (by kernel_rfl) (by kernel_rfl)
                  simp [go_sem, e3, itC]
                  exact ⟨(Below.refl _ _).alloc (Nat.le_refl _) _, itC_new h3 _⟩
              · intro V9 w9 q9 hS
                have e0 : V9 0 = .pointer (some ⟨K, 1, none⟩) := hS 0 (by decide)
                have e1 : V9 1 = .slice va M.length vc := hS 1 (by decide)
                have e2 : V9 2 = .agg #[.string (str (nthA g.actors jf).name), .int .i64 efp, .int .i64 0] := hS 2 (by decide)
                have e3 : V9 3 = .agg #[.string (str (nthA g.actors jt).name), .int .i64 etp, .int .i64 0] := hS 3 (by decide)
                have e4 : V9 4 = .pointer (some ⟨wr.heap.size, 4, none⟩) := hS 4 (by decide)
                have e5 : V9 5 = .slice x zs.length c := hS 5 (by decide)
                obtain ⟨qa6, qc6, e6, -⟩ : NuV V zs w9 (V9 6) := hS 6 (by decide)
                obtain ⟨qa7, qc7, e7, -⟩ : ItV V (drawE g ⟨(jf : Int), efp, (jt : Int), etp, zs⟩) w9 (V9 7) := hS 7 (by decide)
                obtain ⟨hx, qa, qc, e8, Q1, Q2⟩ : ItC V (drawE g ⟨(jf : Int), efp, (jt : Int), etp, zs⟩) w9 (V9 8) := hS 8 (by decide)
                simp only [List.drop_succ_cons, List.drop_zero, List.take_succ_cons, List.take_zero, puts, e0, e1, e2, e3, e4, e5, e6, e7, e8]
                clear hS e0 e1 e2 e3 e4 e5 e6 e7 e8 V9
                simp only [Act.put, List.setIfInBounds_toArray, List.set_cons_zero, List.set_cons_succ]
                have D9 := hiddenG DV.out
                have B9 := hiddenG q9
                have C9 := hiddenG Q1
                have N9 := hiddenG Q2
                clear Q1 Q2 q9 DV bb0 bb1 bb2 bb3 bb4 gx1 kk
                go_wp2_with (at_builtin; refine wpList_append_told _ rfl (.tmp 90) (.tmp 97) 22 rfl (K + 1) 50 i0 (.agg #[.int .u8 0, .string ⟨#[]⟩, .string ⟨#[]⟩, .slice none 0 0, .string ⟨#[]⟩, .int .i64 0, .int .i64 0, .string ⟨#[]⟩, .int .i64 0, .int .i64 0, .int .i64 0]) 11 136 Try.underlying22 HJ.out HJ0.out HJ1.out HJ2.out rfl (by decide) (.slice va M.length vc) M.length (M.flatMap itP) rfl (owns_below D9.out.its.row B9.out) ⟨hx, 0, none⟩ 1 1 (by decide) (itP ((drawE g ⟨(jf : Int), efp, (jt : Int), etp, zs⟩), .slice qa (drawE g ⟨(jf : Int), efp, (jt : Int), etp, zs⟩).nums.length qc)) rfl rfl (fun j u hu => by rw [add_zero5]; exact C9.out j u hu) (itP_one _ _ _ _) (by unfold maxLen; omega) (by omega) (Nat.le_trans D9.out.big B9.out.size) ?_; intro v' w4 ho ht; obtain ⟨D10, bk⟩ := D9.out.put B9.out (x := (drawE g ⟨(jf : Int), efp, (jt : Int), etp, zs⟩)) (q := .slice qa (drawE g ⟨(jf : Int), efp, (jt : Int), etp, zs⟩).nums.length qc) N9.out ho ht; obtain ⟨va4, vc4, rfl⟩ := told_shape ht; have E10 := hiddenG D10; have s1 : w4.cell? ⟨K, 1, none⟩ = some (.slice va M.length vc) := bk.cell rfl; have f1 := bk.frozen 1; clear ho ht D10 bk)
                go_roundg (g.edges.length - (k + 1))
                case measure => omega
                case rel => exact ⟨k + 1, va4, vc4, M ++ [((drawE g ⟨(jf : Int), efp, (jt : Int), etp, zs⟩), .slice qa (drawE g ⟨(jf : Int), efp, (jt : Int), etp, zs⟩).nums.length qc)], by omega, rfl, by go_num, by rw [List.map_append, MM.out, TK.out, List.map_append, List.append_assoc]; rfl, by rw [List.length_append]; exact E10.out⟩
        · have ek : k = g.edges.length := by omega
          have MM1 : Hid (M.map Prod.fst = g.actors.map drawA ++ g.edges.map (drawE g)) := by
            have e := MM.out
            rw [ek, List.take_length] at e
            exact e
          have hki : ¬ (k : Int) < (g.edges.length : Int) := by omega
          clear MM ek
          have y3 : wr.cell? ⟨w.heap.size, 3, none⟩ = some (.slice a3 g.ins.length c3) := DD.out.gb.cell rfl
          go_wp2
          go_loopg [14] g.ins.length (fun gk v wr => ∃ (k : Nat) (va : Option Addr) (vc : Nat) (M : List (Itm × Value)), k ≤ g.ins.length ∧ gk = g.ins.length - k ∧ v = .int .i64 (k : Int) ∧ M.map Prod.fst = g.actors.map drawA ++ g.edges.map (drawE g) ++ (g.ins.take k).map (drawI g) ∧ DrS w K g (some ⟨ab, ao, none⟩) a2 a3 a4 c1 c2 c3 c4 (.slice va M.length vc) M wr)
          case atStart => exact ⟨0, va, vc, M, Nat.zero_le _, rfl, rfl, by rw [List.take_zero, List.map_nil, List.append_nil]; exact MM1.out, DD.out⟩
          case round =>
            obtain ⟨k, va, vc, M, hk, rfl, rfl, hM, hD⟩ := hrel
            have DD := hiddenG hD
            have MM := hiddenG hM
            clear hM hD y3
            have LM : M.length ≤ 160 := by
              have q := congrArg List.length MM.out
              have := HLM.out
              simp only [List.length_map, List.length_append, List.length_take] at q
              omega
            have yy : wr.cell? ⟨w.heap.size, 3, none⟩ = some (.slice a3 g.ins.length c3) := DD.out.gb.cell rfl
            by_cases hlt : k < g.ins.length
            · have hki : (k : Int) < (g.ins.length : Int) := by omega
              rcases (HG.out.below (DD.out.bel.mono (Nat.le_refl _))).I with e | ⟨b, off, eP', hc⟩
              · rw [e] at hlt; exact absurd hlt (Nat.not_lt_zero _)
              obtain ⟨k0, k1, k2⟩ := hc k hlt
              have HEK := (in_ok (HS.out.ins k hlt)).2.2.1
              have TK := hiddenG (take_P hlt)
              generalize nthP g.ins k = E at *
              obtain ⟨nm, ac, po⟩ := E
              simp only at k0 k1 k2 HEK
              have hc0 := HEK.1
              have hc1 := HEK.2.1
              obtain ⟨jc, rfl⟩ : ∃ i : Nat, ac = (i : Int) := ⟨ac.toNat, by omega⟩
              have hjc : jc < g.actors.length := by omega
              clear hc hc0 hc1 HEK
              subst eP'
              go_upto_region 22 with fail
              have bv := (Below.refl wr.heap.size wr).alloc (Nat.le_refl _) (.cells #[.string (str nm), .int .i64 (jc : Int), .int .i64 po] 56)
              have DV := hiddenG (DD.out.below bv)
              have BX := hiddenG (blkA_new 56 wr #[.string (str nm), .int .i64 (jc : Int), .int .i64 po])
              clear bv k0 k1 k2
              generalize wr.alloc (.cells #[.string (str nm), .int .i64 (jc : Int), .int .i64 po] 56) = V at *
              have nx := NAM.out V jc DV.out.bel hjc
              have bb0 := BX.out.cell (k := 0) rfl
              have bb1 := BX.out.cell (k := 1) rfl
              have bb2 := BX.out.cell (k := 2) rfl
              simp only [List.getElem_toArray, List.getElem_cons_zero, List.getElem_cons_succ] at bb0 bb1 bb2
              have kk : V.cell? ⟨K, 1, none⟩ = some (.slice va M.length vc) := DV.out.sb.cell rfl
              have gx1 : V.cell? ⟨w.heap.size, 1, none⟩ = some (.slice (some ⟨ab, ao, none⟩) g.actors.length c1) := DV.out.gb.cell rfl
              refine wp_region_said 16 (fun i u v => match i with
                  | 0 => v = .pointer (some ⟨K, 1, none⟩)
                  | 1 => v = .slice va M.length vc
                  | 2 => v = .pointer (some ⟨wr.heap.size, 0, none⟩)
                  | 3 => v = .string (str nm)
                  | 4 => v = .pointer (some ⟨w.heap.size, 1, none⟩)
                  | 5 => v = .slice (some ⟨ab, ao, none⟩) g.actors.length c1
                  | 6 => v = .pointer (some ⟨wr.heap.size, 1, none⟩)
                  | 7 => v = .int .i64 (jc : Int)
                  | 8 => v = .pointer (some ⟨ab, ao + jc * 3, none⟩)
                  | 9 => v = .pointer (some ⟨ab, ao + jc * 3, none⟩)
                  | 10 => v = .string (str (nthA g.actors jc).name)
                  | 11 => v = .pointer (some ⟨wr.heap.size, 2, none⟩)
                  | 12 => v = .int .i64 po
                  | 13 => v = .agg #[.string (str (nthA g.actors jc).name), .int .i64 po, .int .i64 0]
                  | 14 => ItV V (drawI g ⟨nm, (jc : Int), po⟩) u v
                  | 15 => ItC V (drawI g ⟨nm, (jc : Int), po⟩) u v
                  | _ => True) (by kernel_rfl) (by kernel_rfl) (by kernel_rfl) (by kernel_rfl) ?_ ?_ ?_
              · intro i w v w' h hb
                match i, h with
                | 0, h => exact h
                | 1, h => exact h
                | 2, h => exact h
                | 3, h => exact h
                | 4, h => exact h
                | 5, h => exact h
                | 6, h => exact h
                | 7, h => exact h
                | 8, h => exact h
                | 9, h => exact h
                | 10, h => exact h
                | 11, h => exact h
                | 12, h => exact h
                | 13, h => exact h
                | 14, h => exact ItV.later h hb
                | 15, h => exact ItC.later h hb
                | _ + 16, _ => trivial
              · intro i o ρ w' hi ho hb hc hf hfr hdep
                have kS := cell_keep hb kk
                have b0 := cell_keep hb bb0
                have b1 := cell_keep hb bb1
                have b2 := cell_keep hb bb2
                have g1 := cell_keep hb gx1
                have nj := cell_keep hb nx
                match i, hi with
                | 0, _ =>
                  simp only [gTA, gCZ, gSI] at ho
                  subst ho
                  have ts : ρ (.tmp 5) = .pointer (some ⟨K, 0, none⟩) := hfr 5 (by kernel_rfl)
                  simp [go_sem, ts]
                  exact ⟨Below.refl _ _, rfl⟩
                | 1, _ =>
                  simp only [gTA, gCZ, gCS, gSI] at ho
                  subst ho
                  have ts : ρ (.tmp 112) = .pointer (some ⟨K, 1, none⟩) := hdep 0 112 (by kernel_rfl) (by kernel_rfl)
                  simp [go_sem, ts, kS]
                  exact ⟨Below.refl _ _, rfl⟩
                | 2, _ =>
                  simp only [gTA, gCZ, gCS, gSI] at ho
                  subst ho
                  have ts : ρ (.tmp 15) = .pointer (some ⟨wr.heap.size, 0, none⟩) := hfr 15 (by kernel_rfl)
                  simp [go_sem, ts]
                  exact ⟨Below.refl _ _, rfl⟩
                | 3, _ =>
                  simp only [gTA, gCZ, gCS, gSI] at ho
                  subst ho
                  have ts : ρ (.tmp 114) = .pointer (some ⟨wr.heap.size, 0, none⟩) := hdep 2 114 (by kernel_rfl) (by kernel_rfl)
                  simp [go_sem, ts, b0]
                  exact ⟨Below.refl _ _, rfl⟩
                | 4, _ =>
                  simp only [gTA, gCZ, gCS, gSI] at ho
                  subst ho
                  have ts : ρ (.tmp 1) = .pointer (some ⟨w.heap.size, 0, none⟩) := hfr 1 (by kernel_rfl)
                  simp [go_sem, ts]
                  exact ⟨Below.refl _ _, rfl⟩
                | 5, _ =>
                  simp only [gTA, gCZ, gCS, gSI] at ho
                  subst ho
                  have ts : ρ (.tmp 116) = .pointer (some ⟨w.heap.size, 1, none⟩) := hdep 4 116 (by kernel_rfl) (by kernel_rfl)
                  simp [go_sem, ts, g1]
                  exact ⟨Below.refl _ _, rfl⟩
                | 6, _ =>
                  simp only [gTA, gCZ, gCS, gSI] at ho
                  subst ho
                  have ts : ρ (.tmp 15) = .pointer (some ⟨wr.heap.size, 0, none⟩) := hfr 15 (by kernel_rfl)
                  simp [go_sem, ts]
                  exact ⟨Below.refl _ _, rfl⟩
                | 7, _ =>
                  simp only [gTA, gCZ, gCS, gSI] at ho
                  subst ho
                  have ts : ρ (.tmp 118) = .pointer (some ⟨wr.heap.size, 1, none⟩) := hdep 6 118 (by kernel_rfl) (by kernel_rfl)
                  simp [go_sem, ts, b1]
                  exact ⟨Below.refl _ _, rfl⟩
                | 8, _ =>
                  simp only [gTA, gCZ, gCS, gSI] at ho
                  subst ho
                  have t0 : ρ (.tmp 117) = .slice (some ⟨ab, ao, none⟩) g.actors.length c1 := hdep 5 117 (by kernel_rfl) (by kernel_rfl)
                  have t1 : ρ (.tmp 119) = .int .i64 (jc : Int) := hdep 7 119 (by kernel_rfl) (by kernel_rfl)
                  simp [go_sem, t0, t1, hjc]
                  exact ⟨Below.refl _ _, rfl⟩
                | 9, _ =>
                  simp only [gTA, gCZ, gCS, gSI] at ho
                  subst ho
                  have t0 : ρ (.tmp 120) = .pointer (some ⟨ab, ao + jc * 3, none⟩) := hdep 8 120 (by kernel_rfl) (by kernel_rfl)
                  simp [go_sem, t0]
                  exact ⟨Below.refl _ _, rfl⟩
                | 10, _ =>
                  simp only [gTA, gCZ, gCS, gSI] at ho
                  subst ho
                  have ts : ρ (.tmp 121) = .pointer (some ⟨ab, ao + jc * 3, none⟩) := hdep 9 121 (by kernel_rfl) (by kernel_rfl)
                  simp [go_sem, ts, nj]
                  exact ⟨Below.refl _ _, rfl⟩
                | 11, _ =>
                  simp only [gTA, gCZ, gCS, gSI] at ho
                  subst ho
                  have ts : ρ (.tmp 15) = .pointer (some ⟨wr.heap.size, 0, none⟩) := hfr 15 (by kernel_rfl)
                  simp [go_sem, ts]
                  exact ⟨Below.refl _ _, rfl⟩
                | 12, _ =>
                  simp only [gTA, gCZ, gCS, gSI] at ho
                  subst ho
                  have ts : ρ (.tmp 123) = .pointer (some ⟨wr.heap.size, 2, none⟩) := hdep 11 123 (by kernel_rfl) (by kernel_rfl)
                  simp [go_sem, ts, b2]
                  exact ⟨Below.refl _ _, rfl⟩
                | 13, _ =>
                  simp only [gTA, gCZ, gCS, gSI] at ho
                  subst ho
                  have t0 : ρ (.tmp 122) = .string (str (nthA g.actors jc).name) := hdep 10 122 (by kernel_rfl) (by kernel_rfl)
                  have t1 : ρ (.tmp 124) = .int .i64 po := hdep 12 124 (by kernel_rfl) (by kernel_rfl)
                  simp [go_sem, t0, t1]
                  exact ⟨Below.refl _ _, rfl⟩
                | 14, _ =>
                  simp only [gTA, gCZ, gCS, gSI] at ho
                  subst ho
                  have t0 : ρ (.tmp 115) = .string (str nm) := hdep 3 115 (by kernel_rfl) (by kernel_rfl)
                  have t1 : ρ (.tmp 125) = .agg #[.string (str (nthA g.actors jc).name), .int .i64 po, .int .i64 0] := hdep 13 125 (by kernel_rfl) (by kernel_rfl)
                  simp [go_sem, t0, t1, hc]
                  exact ⟨Below.refl _ _, none, 0, rfl, World.ownsRow_nil _ _ _ _⟩
                | 15, _ =>
                  simp only [gTA, gCZ, gCS, gSI] at ho
                  subst ho
                  obtain ⟨qa, qc, e3, h3⟩ : ItV V (drawI g ⟨nm, (jc : Int), po⟩) w' (ρ (.tmp 126)) := hdep 14 126 (by kernel_rfl) (by kernel_rfl)
                  simp [go_sem, e3, itC]
                  exact ⟨(Below.refl _ _).alloc (Nat.le_refl _) _, itC_new h3 _⟩
                | k + 16, h => exact absurd h (by omega)
              · intro V9 w9 q9 hS
                have e0 : V9 0 = .pointer (some ⟨K, 1, none⟩) := hS 0 (by decide)
                have e1 : V9 1 = .slice va M.length vc := hS 1 (by decide)
                have e2 : V9 2 = .pointer (some ⟨wr.heap.size, 0, none⟩) := hS 2 (by decide)
                have e3 : V9 3 = .string (str nm) := hS 3 (by decide)
                have e4 : V9 4 = .pointer (some ⟨w.heap.size, 1, none⟩) := hS 4 (by decide)
                have e5 : V9 5 = .slice (some ⟨ab, ao, none⟩) g.actors.length c1 := hS 5 (by decide)
                have e6 : V9 6 = .pointer (some ⟨wr.heap.size, 1, none⟩) := hS 6 (by decide)
                have e7 : V9 7 = .int .i64 (jc : Int) := hS 7 (by decide)
                have e8 : V9 8 = .pointer (some ⟨ab, ao + jc * 3, none⟩) := hS 8 (by decide)
                have e9 : V9 9 = .pointer (some ⟨ab, ao + jc * 3, none⟩) := hS 9 (by decide)
                have e10 : V9 10 = .string (str (nthA g.actors jc).name) := hS 10 (by decide)
                have e11 : V9 11 = .pointer (some ⟨wr.heap.size, 2, none⟩) := hS 11 (by decide)
                have e12 : V9 12 = .int .i64 po := hS 12 (by decide)
                have e13 : V9 13 = .agg #[.string (str (nthA g.actors jc).name), .int .i64 po, .int .i64 0] := hS 13 (by decide)
                obtain ⟨qa14, qc14, e14, -⟩ : ItV V (drawI g ⟨nm, (jc : Int), po⟩) w9 (V9 14) := hS 14 (by decide)
                obtain ⟨hx, qa, qc, e15, Q1, Q2⟩ : ItC V (drawI g ⟨nm, (jc : Int), po⟩) w9 (V9 15) := hS 15 (by decide)
                simp only [List.drop_succ_cons, List.drop_zero, List.take_succ_cons, List.take_zero, puts, e0, e1, e2, e3, e4, e5, e6, e7, e8, e9, e10, e11, e12, e13, e14, e15]
                clear hS e0 e1 e2 e3 e4 e5 e6 e7 e8 e9 e10 e11 e12 e13 e14 e15 V9
                simp only [Act.put, List.setIfInBounds_toArray, List.set_cons_zero, List.set_cons_succ]
                have D9 := hiddenG DV.out
                have B9 := hiddenG q9
                have C9 := hiddenG Q1
                have N9 := hiddenG Q2
                clear Q1 Q2 q9 DV bb0 bb1 bb2 gx1 kk
                go_wp2_with (at_builtin; refine wpList_append_told _ rfl (.tmp 113) (.tmp 127) 22 rfl (K + 1) 50 i0 (.agg #[.int .u8 0, .string ⟨#[]⟩, .string ⟨#[]⟩, .slice none 0 0, .string ⟨#[]⟩, .int .i64 0, .int .i64 0, .string ⟨#[]⟩, .int .i64 0, .int .i64 0, .int .i64 0]) 11 136 Try.underlying22 HJ.out HJ0.out HJ1.out HJ2.out rfl (by decide) (.slice va M.length vc) M.length (M.flatMap itP) rfl (owns_below D9.out.its.row B9.out) ⟨hx, 0, none⟩ 1 1 (by decide) (itP ((drawI g ⟨nm, (jc : Int), po⟩), .slice qa (drawI g ⟨nm, (jc : Int), po⟩).nums.length qc)) rfl rfl (fun j u hu => by rw [add_zero5]; exact C9.out j u hu) (itP_one _ _ _ _) (by unfold maxLen; omega) (by omega) (Nat.le_trans D9.out.big B9.out.size) ?_; intro v' w4 ho ht; obtain ⟨D10, bk⟩ := D9.out.put B9.out (x := (drawI g ⟨nm, (jc : Int), po⟩)) (q := .slice qa (drawI g ⟨nm, (jc : Int), po⟩).nums.length qc) N9.out ho ht; obtain ⟨va4, vc4, rfl⟩ := told_shape ht; have E10 := hiddenG D10; have s1 : w4.cell? ⟨K, 1, none⟩ = some (.slice va M.length vc) := bk.cell rfl; have f1 := bk.frozen 1; clear ho ht D10 bk)
                go_roundg (g.ins.length - (k + 1))
                case measure => omega
                case rel => exact ⟨k + 1, va4, vc4, M ++ [((drawI g ⟨nm, (jc : Int), po⟩), .slice qa (drawI g ⟨nm, (jc : Int), po⟩).nums.length qc)], by omega, rfl, by go_num, by rw [List.map_append, MM.out, TK.out, List.map_append, List.append_assoc]; rfl, by rw [List.length_append]; exact E10.out⟩
            · have ek : k = g.ins.length := by omega
              have MM2 : Hid (M.map Prod.fst = g.actors.map drawA ++ g.edges.map (drawE g) ++ g.ins.map (drawI g)) := by
                have e := MM.out
                rw [ek, List.take_length] at e
                exact e
              have hki : ¬ (k : Int) < (g.ins.length : Int) := by omega
              clear MM ek
              have y4 : wr.cell? ⟨w.heap.size, 4, none⟩ = some (.slice a4 g.outs.length c4) := DD.out.gb.cell rfl
              go_wp2
              go_loopg [16] g.outs.length (fun gk v wr => ∃ (k : Nat) (va : Option Addr) (vc : Nat) (M : List (Itm × Value)), k ≤ g.outs.length ∧ gk = g.outs.length - k ∧ v = .int .i64 (k : Int) ∧ M.map Prod.fst = g.actors.map drawA ++ g.edges.map (drawE g) ++ g.ins.map (drawI g) ++ (g.outs.take k).map (drawO g) ∧ DrS w K g (some ⟨ab, ao, none⟩) a2 a3 a4 c1 c2 c3 c4 (.slice va M.length vc) M wr)
              case atStart => exact ⟨0, va, vc, M, Nat.zero_le _, rfl, rfl, by rw [List.take_zero, List.map_nil, List.append_nil]; exact MM2.out, DD.out⟩
              case round =>
                obtain ⟨k, va, vc, M, hk, rfl, rfl, hM, hD⟩ := hrel
                have DD := hiddenG hD
                have MM := hiddenG hM
                clear hM hD y4
                have LM : M.length ≤ 160 := by
                  have q := congrArg List.length MM.out
                  have := HLM.out
                  simp only [List.length_map, List.length_append, List.length_take] at q
                  omega
                have yy : wr.cell? ⟨w.heap.size, 4, none⟩ = some (.slice a4 g.outs.length c4) := DD.out.gb.cell rfl
                by_cases hlt : k < g.outs.length
                · have hki : (k : Int) < (g.outs.length : Int) := by omega
                  rcases (HG.out.below (DD.out.bel.mono (Nat.le_refl _))).O with e | ⟨b, off, eP', hc⟩
                  · rw [e] at hlt; exact absurd hlt (Nat.not_lt_zero _)
                  obtain ⟨k0, k1, k2⟩ := hc k hlt
                  have HEK := (out_ok (HS.out.outs k hlt)).2.2.1
                  have TK := hiddenG (take_P hlt)
                  generalize nthP g.outs k = E at *
                  obtain ⟨nm, ac, po⟩ := E
                  simp only at k0 k1 k2 HEK
                  have hc0 := HEK.1
                  have hc1 := HEK.2.1
                  obtain ⟨jc, rfl⟩ : ∃ i : Nat, ac = (i : Int) := ⟨ac.toNat, by omega⟩
                  have hjc : jc < g.actors.length := by omega
                  clear hc hc0 hc1 HEK
                  subst eP'
                  go_upto_region 27 with fail
                  have bv := (Below.refl wr.heap.size wr).alloc (Nat.le_refl _) (.cells #[.string (str nm), .int .i64 (jc : Int), .int .i64 po] 56)
                  have DV := hiddenG (DD.out.below bv)
                  have BX := hiddenG (blkA_new 56 wr #[.string (str nm), .int .i64 (jc : Int), .int .i64 po])
                  clear bv k0 k1 k2
                  generalize wr.alloc (.cells #[.string (str nm), .int .i64 (jc : Int), .int .i64 po] 56) = V at *
                  have nx := NAM.out V jc DV.out.bel hjc
                  have bb0 := BX.out.cell (k := 0) rfl
                  have bb1 := BX.out.cell (k := 1) rfl
                  have bb2 := BX.out.cell (k := 2) rfl
                  simp only [List.getElem_toArray, List.getElem_cons_zero, List.getElem_cons_succ] at bb0 bb1 bb2
                  have kk : V.cell? ⟨K, 1, none⟩ = some (.slice va M.length vc) := DV.out.sb.cell rfl
                  have gx1 : V.cell? ⟨w.heap.size, 1, none⟩ = some (.slice (some ⟨ab, ao, none⟩) g.actors.length c1) := DV.out.gb.cell rfl
                  refine wp_region_said 16 (fun i u v => match i with
                      | 0 => v = .pointer (some ⟨K, 1, none⟩)
                      | 1 => v = .slice va M.length vc
                      | 2 => v = .pointer (some ⟨wr.heap.size, 0, none⟩)
                      | 3 => v = .string (str nm)
                      | 4 => v = .pointer (some ⟨w.heap.size, 1, none⟩)
                      | 5 => v = .slice (some ⟨ab, ao, none⟩) g.actors.length c1
                      | 6 => v = .pointer (some ⟨wr.heap.size, 1, none⟩)
                      | 7 => v = .int .i64 (jc : Int)
                      | 8 => v = .pointer (some ⟨ab, ao + jc * 3, none⟩)
                      | 9 => v = .pointer (some ⟨ab, ao + jc * 3, none⟩)
                      | 10 => v = .string (str (nthA g.actors jc).name)
                      | 11 => v = .pointer (some ⟨wr.heap.size, 2, none⟩)
                      | 12 => v = .int .i64 po
                      | 13 => v = .agg #[.string (str (nthA g.actors jc).name), .int .i64 po, .int .i64 0]
                      | 14 => ItV V (drawO g ⟨nm, (jc : Int), po⟩) u v
                      | 15 => ItC V (drawO g ⟨nm, (jc : Int), po⟩) u v
                      | _ => True) (by kernel_rfl) (by kernel_rfl) (by kernel_rfl) (by kernel_rfl) ?_ ?_ ?_
                  · intro i w v w' h hb
                    match i, h with
                    | 0, h => exact h
                    | 1, h => exact h
                    | 2, h => exact h
                    | 3, h => exact h
                    | 4, h => exact h
                    | 5, h => exact h
                    | 6, h => exact h
                    | 7, h => exact h
                    | 8, h => exact h
                    | 9, h => exact h
                    | 10, h => exact h
                    | 11, h => exact h
                    | 12, h => exact h
                    | 13, h => exact h
                    | 14, h => exact ItV.later h hb
                    | 15, h => exact ItC.later h hb
                    | _ + 16, _ => trivial
                  · intro i o ρ w' hi ho hb hc hf hfr hdep
                    have kS := cell_keep hb kk
                    have b0 := cell_keep hb bb0
                    have b1 := cell_keep hb bb1
                    have b2 := cell_keep hb bb2
                    have g1 := cell_keep hb gx1
                    have nj := cell_keep hb nx
                    match i, hi with
                    | 0, _ =>
                      simp only [gTA, gCZ, gSI] at ho
                      subst ho
                      have ts : ρ (.tmp 5) = .pointer (some ⟨K, 0, none⟩) := hfr 5 (by kernel_rfl)
                      simp [go_sem, ts]
                      exact ⟨Below.refl _ _, rfl⟩
                    | 1, _ =>
                      simp only [gTA, gCZ, gCS, gSI] at ho
                      subst ho
                      have ts : ρ (.tmp 142) = .pointer (some ⟨K, 1, none⟩) := hdep 0 142 (by kernel_rfl) (by kernel_rfl)
                      simp [go_sem, ts, kS]
                      exact ⟨Below.refl _ _, rfl⟩
                    | 2, _ =>
                      simp only [gTA, gCZ, gCS, gSI] at ho
                      subst ho
                      have ts : ρ (.tmp 17) = .pointer (some ⟨wr.heap.size, 0, none⟩) := hfr 17 (by kernel_rfl)
                      simp [go_sem, ts]
                      exact ⟨Below.refl _ _, rfl⟩
                    | 3, _ =>
                      simp only [gTA, gCZ, gCS, gSI] at ho
                      subst ho
                      have ts : ρ (.tmp 144) = .pointer (some ⟨wr.heap.size, 0, none⟩) := hdep 2 144 (by kernel_rfl) (by kernel_rfl)
                      simp [go_sem, ts, b0]
                      exact ⟨Below.refl _ _, rfl⟩
                    | 4, _ =>
                      simp only [gTA, gCZ, gCS, gSI] at ho
                      subst ho
                      have ts : ρ (.tmp 1) = .pointer (some ⟨w.heap.size, 0, none⟩) := hfr 1 (by kernel_rfl)
                      simp [go_sem, ts]
                      exact ⟨Below.refl _ _, rfl⟩
                    | 5, _ =>
                      simp only [gTA, gCZ, gCS, gSI] at ho
                      subst ho
                      have ts : ρ (.tmp 146) = .pointer (some ⟨w.heap.size, 1, none⟩) := hdep 4 146 (by kernel_rfl) (by kernel_rfl)
                      simp [go_sem, ts, g1]
                      exact ⟨Below.refl _ _, rfl⟩
                    | 6, _ =>
                      simp only [gTA, gCZ, gCS, gSI] at ho
                      subst ho
                      have ts : ρ (.tmp 17) = .pointer (some ⟨wr.heap.size, 0, none⟩) := hfr 17 (by kernel_rfl)
                      simp [go_sem, ts]
                      exact ⟨Below.refl _ _, rfl⟩
                    | 7, _ =>
                      simp only [gTA, gCZ, gCS, gSI] at ho
                      subst ho
                      have ts : ρ (.tmp 148) = .pointer (some ⟨wr.heap.size, 1, none⟩) := hdep 6 148 (by kernel_rfl) (by kernel_rfl)
                      simp [go_sem, ts, b1]
                      exact ⟨Below.refl _ _, rfl⟩
                    | 8, _ =>
                      simp only [gTA, gCZ, gCS, gSI] at ho
                      subst ho
                      have t0 : ρ (.tmp 147) = .slice (some ⟨ab, ao, none⟩) g.actors.length c1 := hdep 5 147 (by kernel_rfl) (by kernel_rfl)
                      have t1 : ρ (.tmp 149) = .int .i64 (jc : Int) := hdep 7 149 (by kernel_rfl) (by kernel_rfl)
                      simp [go_sem, t0, t1, hjc]
                      exact ⟨Below.refl _ _, rfl⟩
                    | 9, _ =>
                      simp only [gTA, gCZ, gCS, gSI] at ho
                      subst ho
                      have t0 : ρ (.tmp 150) = .pointer (some ⟨ab, ao + jc * 3, none⟩) := hdep 8 150 (by kernel_rfl) (by kernel_rfl)
                      simp [go_sem, t0]
                      exact ⟨Below.refl _ _, rfl⟩
                    | 10, _ =>
                      simp only [gTA, gCZ, gCS, gSI] at ho
                      subst ho
                      have ts : ρ (.tmp 151) = .pointer (some ⟨ab, ao + jc * 3, none⟩) := hdep 9 151 (by kernel_rfl) (by kernel_rfl)
                      simp [go_sem, ts, nj]
                      exact ⟨Below.refl _ _, rfl⟩
                    | 11, _ =>
                      simp only [gTA, gCZ, gCS, gSI] at ho
                      subst ho
                      have ts : ρ (.tmp 17) = .pointer (some ⟨wr.heap.size, 0, none⟩) := hfr 17 (by kernel_rfl)
                      simp [go_sem, ts]
                      exact ⟨Below.refl _ _, rfl⟩
                    | 12, _ =>
                      simp only [gTA, gCZ, gCS, gSI] at ho
                      subst ho
                      have ts : ρ (.tmp 153) = .pointer (some ⟨wr.heap.size, 2, none⟩) := hdep 11 153 (by kernel_rfl) (by kernel_rfl)
                      simp [go_sem, ts, b2]
                      exact ⟨Below.refl _ _, rfl⟩
                    | 13, _ =>
                      simp only [gTA, gCZ, gCS, gSI] at ho
                      subst ho
                      have t0 : ρ (.tmp 152) = .string (str (nthA g.actors jc).name) := hdep 10 152 (by kernel_rfl) (by kernel_rfl)
                      have t1 : ρ (.tmp 154) = .int .i64 po := hdep 12 154 (by kernel_rfl) (by kernel_rfl)
                      simp [go_sem, t0, t1]
                      exact ⟨Below.refl _ _, rfl⟩
                    | 14, _ =>
                      simp only [gTA, gCZ, gCS, gSI] at ho
                      subst ho
                      have t0 : ρ (.tmp 145) = .string (str nm) := hdep 3 145 (by kernel_rfl) (by kernel_rfl)
                      have t1 : ρ (.tmp 155) = .agg #[.string (str (nthA g.actors jc).name), .int .i64 po, .int .i64 0] := hdep 13 155 (by kernel_rfl) (by kernel_rfl)
                      simp [go_sem, t0, t1, hc]
                      exact ⟨Below.refl _ _, none, 0, rfl, World.ownsRow_nil _ _ _ _⟩
                    | 15, _ =>
                      simp only [gTA, gCZ, gCS, gSI] at ho
                      subst ho
                      obtain ⟨qa, qc, e3, h3⟩ : ItV V (drawO g ⟨nm, (jc : Int), po⟩) w' (ρ (.tmp 156)) := hdep 14 156 (by kernel_rfl) (by kernel_rfl)
                      simp [go_sem, e3, itC]
                      exact ⟨(Below.refl _ _).alloc (Nat.le_refl _) _, itC_new h3 _⟩
                    | k + 16, h => exact absurd h (by omega)
                  · intro V9 w9 q9 hS
                    have e0 : V9 0 = .pointer (some ⟨K, 1, none⟩) := hS 0 (by decide)
                    have e1 : V9 1 = .slice va M.length vc := hS 1 (by decide)
                    have e2 : V9 2 = .pointer (some ⟨wr.heap.size, 0, none⟩) := hS 2 (by decide)
                    have e3 : V9 3 = .string (str nm) := hS 3 (by decide)
                    have e4 : V9 4 = .pointer (some ⟨w.heap.size, 1, none⟩) := hS 4 (by decide)
                    have e5 : V9 5 = .slice (some ⟨ab, ao, none⟩) g.actors.length c1 := hS 5 (by decide)
                    have e6 : V9 6 = .pointer (some ⟨wr.heap.size, 1, none⟩) := hS 6 (by decide)
                    have e7 : V9 7 = .int .i64 (jc : Int) := hS 7 (by decide)
                    have e8 : V9 8 = .pointer (some ⟨ab, ao + jc * 3, none⟩) := hS 8 (by decide)
                    have e9 : V9 9 = .pointer (some ⟨ab, ao + jc * 3, none⟩) := hS 9 (by decide)
                    have e10 : V9 10 = .string (str (nthA g.actors jc).name) := hS 10 (by decide)
                    have e11 : V9 11 = .pointer (some ⟨wr.heap.size, 2, none⟩) := hS 11 (by decide)
                    have e12 : V9 12 = .int .i64 po := hS 12 (by decide)
                    have e13 : V9 13 = .agg #[.string (str (nthA g.actors jc).name), .int .i64 po, .int .i64 0] := hS 13 (by decide)
                    obtain ⟨qa14, qc14, e14, -⟩ : ItV V (drawO g ⟨nm, (jc : Int), po⟩) w9 (V9 14) := hS 14 (by decide)
                    obtain ⟨hx, qa, qc, e15, Q1, Q2⟩ : ItC V (drawO g ⟨nm, (jc : Int), po⟩) w9 (V9 15) := hS 15 (by decide)
                    simp only [List.drop_succ_cons, List.drop_zero, List.take_succ_cons, List.take_zero, puts, e0, e1, e2, e3, e4, e5, e6, e7, e8, e9, e10, e11, e12, e13, e14, e15]
                    clear hS e0 e1 e2 e3 e4 e5 e6 e7 e8 e9 e10 e11 e12 e13 e14 e15 V9
                    simp only [Act.put, List.setIfInBounds_toArray, List.set_cons_zero, List.set_cons_succ]
                    have D9 := hiddenG DV.out
                    have B9 := hiddenG q9
                    have C9 := hiddenG Q1
                    have N9 := hiddenG Q2
                    clear Q1 Q2 q9 DV bb0 bb1 bb2 gx1 kk
                    go_wp2_with (at_builtin; refine wpList_append_told _ rfl (.tmp 143) (.tmp 157) 22 rfl (K + 1) 50 i0 (.agg #[.int .u8 0, .string ⟨#[]⟩, .string ⟨#[]⟩, .slice none 0 0, .string ⟨#[]⟩, .int .i64 0, .int .i64 0, .string ⟨#[]⟩, .int .i64 0, .int .i64 0, .int .i64 0]) 11 136 Try.underlying22 HJ.out HJ0.out HJ1.out HJ2.out rfl (by decide) (.slice va M.length vc) M.length (M.flatMap itP) rfl (owns_below D9.out.its.row B9.out) ⟨hx, 0, none⟩ 1 1 (by decide) (itP ((drawO g ⟨nm, (jc : Int), po⟩), .slice qa (drawO g ⟨nm, (jc : Int), po⟩).nums.length qc)) rfl rfl (fun j u hu => by rw [add_zero5]; exact C9.out j u hu) (itP_one _ _ _ _) (by unfold maxLen; omega) (by omega) (Nat.le_trans D9.out.big B9.out.size) ?_; intro v' w4 ho ht; obtain ⟨D10, bk⟩ := D9.out.put B9.out (x := (drawO g ⟨nm, (jc : Int), po⟩)) (q := .slice qa (drawO g ⟨nm, (jc : Int), po⟩).nums.length qc) N9.out ho ht; obtain ⟨va4, vc4, rfl⟩ := told_shape ht; have E10 := hiddenG D10; have s1 : w4.cell? ⟨K, 1, none⟩ = some (.slice va M.length vc) := bk.cell rfl; have f1 := bk.frozen 1; clear ho ht D10 bk)
                    go_roundg (g.outs.length - (k + 1))
                    case measure => omega
                    case rel => exact ⟨k + 1, va4, vc4, M ++ [((drawO g ⟨nm, (jc : Int), po⟩), .slice qa (drawO g ⟨nm, (jc : Int), po⟩).nums.length qc)], by omega, rfl, by go_num, by rw [List.map_append, MM.out, TK.out, List.map_append, List.append_assoc]; rfl, by rw [List.length_append]; exact E10.out⟩
                · have ek : k = g.outs.length := by omega
                  have MM3 : Hid (M.map Prod.fst = g.actors.map drawA ++ g.edges.map (drawE g) ++ g.ins.map (drawI g) ++ g.outs.map (drawO g)) := by
                    have e := MM.out
                    rw [ek, List.take_length] at e
                    exact e
                  have hki : ¬ (k : Int) < (g.outs.length : Int) := by omega
                  clear MM ek
                  have s0 : wr.cell? ⟨K, 0, none⟩ = some (.string (str g.name)) := DD.out.sb.cell rfl
                  have s1 : wr.cell? ⟨K, 1, none⟩ = some (.slice va M.length vc) := DD.out.sb.cell rfl
                  go_wp2_with (refine wpList_storeW _ rfl 24 (.tmp 2) (.tmp 160) rfl rfl (w.heap.size + 1) 24 _ _ rfl rfl DD.out.rb sizS rfl rfl ?_; intro w8 hN hU; have N8 := hiddenG hN; have U8 := hiddenG hU; clear hN hU)
                  have r0 : w8.cell? ⟨w.heap.size + 1, 0, none⟩ = some (.string (str g.name)) := N8.out.cell rfl
                  have r1 : w8.cell? ⟨w.heap.size + 1, 1, none⟩ = some (.slice va M.length vc) := N8.out.cell rfl
                  refine bodyPost_ret (v := .tuple #[.agg #[.string (str g.name), .slice va M.length vc], .int .i64 0]) (by simp [results, Try.results19, go_sem, r0, r1]) rfl ?_
                  refine H1.out _ _ ⟨va, vc, M, rfl, by rw [MM3.out]; unfold drawS; simp only [List.append_assoc], ?_, DD.out.bel.trans (U8.out.below (Nat.le_succ _) DD.out.bel.size)⟩
                  exact (its_but DD.out.its U8.out DD.out.hk).mono (Nat.le_of_lt (Nat.lt_trans (Nat.lt_succ_self _) (Nat.lt_trans DD.out.hk (Nat.lt_succ_self _))))
set_option maxRecDepth 100000 in
set_option maxHeartbeats 8000000 in
theorem rdraw_no (g : GG) (a1 a2 a3 a4 : Option Addr) (c1 c2 c3 c4 : Nat) (w : World) (h : GrG w a1 a2 a3 a4 g) (h0 : ¬ (firstF g).code = 0) :
    Calls Try.prog 19 #[.agg #[.string (str g.name), .slice a1 g.actors.length c1, .slice a2 g.edges.length c2, .slice a3 g.ins.length c3, .slice a4 g.outs.length c4]] w (DrawEnd g w) := by
  have ba := ((Below.refl w.heap.size w).alloc (Nat.le_refl _) (.cells #[.string (str g.name), .slice a1 g.actors.length c1, .slice a2 g.edges.length c2, .slice a3 g.ins.length c3, .slice a4 g.outs.length c4] 31)).alloc (by simp) (.cells #[.string ⟨#[]⟩, .slice none 0 0] 24)
  have gg := (blkA_new 31 w #[.string (str g.name), .slice a1 g.actors.length c1, .slice a2 g.edges.length c2, .slice a3 g.ins.length c3, .slice a4 g.outs.length c4]).below ((Below.refl _ _).alloc (Nat.le_refl _) (.cells #[.string ⟨#[]⟩, .slice none 0 0] 24))
  have nr : BlkA 24 (w.heap.size + 1) ((w.alloc (.cells #[.string (str g.name), .slice a1 g.actors.length c1, .slice a2 g.edges.length c2, .slice a3 g.ins.length c3, .slice a4 g.outs.length c4] 31)).alloc (.cells #[.string ⟨#[]⟩, .slice none 0 0] 24)) #[.string ⟨#[]⟩, .slice none 0 0] := by
    have h3 := blkA_new 24 (w.alloc (.cells #[.string (str g.name), .slice a1 g.actors.length c1, .slice a2 g.edges.length c2, .slice a3 g.ins.length c3, .slice a4 g.outs.length c4] 31)) #[.string ⟨#[]⟩, .slice none 0 0]
    rw [World.size_alloc] at h3
    exact h3
  have BA := hiddenG ba
  have NR := hiddenG nr
  have y0 := gg.cell (k := 0) rfl
  have y1 := gg.cell (k := 1) rfl
  have y2 := gg.cell (k := 2) rfl
  have y3 := gg.cell (k := 3) rfl
  have y4 := gg.cell (k := 4) rfl
  have CK := hiddenG (rcheck_any g a1 a2 a3 a4 c1 c2 c3 c4 _ (h.below ba))
  obtain ⟨RE, hRE⟩ : ∃ R, DrawEnd g w = R := ⟨_, rfl⟩
  rw [hRE]
  have H1 : Hid (∀ e w', (e = .returned (.tuple #[.agg #[.string ⟨#[]⟩, .slice none 0 0], .int .i64 (firstF g).code]) ∧ Below w.heap.size w w') → RE e w') := fun e w' q => by
    rw [← hRE]
    unfold DrawEnd
    rw [if_neg h0]
    exact q
  clear hRE
  generalize (firstF g).code = cd at *
  have q1 : (cd != 0) = true := by simpa using h0
  clear ba gg nr h
  go_enter Try.func19, Try.ntmps19
  go_upto_region 1 with fail
  generalize (w.alloc (.cells #[.string (str g.name), .slice a1 g.actors.length c1, .slice a2 g.edges.length c2, .slice a3 g.ins.length c3, .slice a4 g.outs.length c4] 31)).alloc (.cells #[.string ⟨#[]⟩, .slice none 0 0] 24) = W0 at *
  go_wp2_with (first
    | (refine wpList_storeW _ rfl 24 (.tmp 2) (.tmp 22) rfl rfl (w.heap.size + 1) 24 _ _ rfl rfl (NR.out.below B1.out) sizS rfl rfl ?_; intro w8 hN hU; have N8 := hiddenG hN; have U8 := hiddenG hU; clear hN hU)
    | (go_at_call 49; (with_reducible refine CK.out.mono ?_); rintro e w1 ⟨rfl, b1⟩; have B1 := hiddenG b1; clear b1 y0 y1 y2 y3 y4))
  have r0 : w8.cell? ⟨w.heap.size + 1, 0, none⟩ = some (.string ⟨#[]⟩) := N8.out.cell rfl
  have r1 : w8.cell? ⟨w.heap.size + 1, 1, none⟩ = some (.slice none 0 0) := N8.out.cell rfl
  refine bodyPost_ret (v := .tuple #[.agg #[.string ⟨#[]⟩, .slice none 0 0], .int .i64 cd]) (by simp [results, Try.results19, go_sem, r0, r1]) rfl ?_
  have b2 := BA.out.trans (B1.out.mono BA.out.size)
  exact H1.out _ _ ⟨rfl, b2.trans (U8.out.below (Nat.le_succ _) b2.size)⟩
theorem rdraw_any (g : GG) (a1 a2 a3 a4 : Option Addr) (c1 c2 c3 c4 : Nat) (w : World) (h : GrG w a1 a2 a3 a4 g) :
    Calls Try.prog 19 #[.agg #[.string (str g.name), .slice a1 g.actors.length c1, .slice a2 g.edges.length c2, .slice a3 g.ins.length c3, .slice a4 g.outs.length c4]] w (DrawEnd g w) := by
  by_cases h0 : (firstF g).code = 0
  · have hl := (head_ok ((sound_iff g).1 h0).head).2.1
    rcases h.A with e | ⟨ab, ao, e, -⟩
    · rw [e] at hl; exact absurd hl (Nat.not_lt_zero _)
    · subst e
      exact rdraw_yes g ab ao a2 a3 a4 c1 c2 c3 c4 w h h0
  · exact rdraw_no g a1 a2 a3 a4 c1 c2 c3 c4 w h h0
end Go.Proofs.Ytlfmmdioondaoaa

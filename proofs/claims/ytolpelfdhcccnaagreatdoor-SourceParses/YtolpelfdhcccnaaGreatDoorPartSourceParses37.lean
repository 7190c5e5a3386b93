/- Texts of one chain, laid one behind the other. -/
import Derived.Test.YtolpelfdhcccnaaGreatDoorPartSourceParses35
import Derived.Test.YtolpelfdhcccnaaGreatDoorPartSourceParses36
import Derived.Test.YtolpelfdhcccnaaGreatDoorPartSourceParses4
import Derived.Test.YtolpelfdhcccnaaGreatDoorPartSourceParses33
namespace Go.Proofs.YtolpelfdhcccnaaGreatDoor
open Go.ChangeShapes Go.WideShapes Go.ChangeAt Go.RowKit
def plcS (g : GG) (a p : Int) : Plc := ⟨(nthA g.actors a.toNat).name, p, 0⟩
def drawA (a : GA) : Itm := ⟨1, a.name, (wordE a.tag).1, a.params, noPlc, noPlc, 0⟩
def drawE (g : GG) (e : GE) : Itm := ⟨2, [], [], e.start, plcS g e.f e.fp, plcS g e.t e.tp, 0⟩
def drawI (g : GG) (p : GP) : Itm := ⟨3, p.name, [], [], noPlc, plcS g p.actor p.port, 0⟩
def drawO (g : GG) (p : GP) : Itm := ⟨4, p.name, [], [], plcS g p.actor p.port, noPlc, 0⟩
def drawS (g : GG) : List Itm := g.actors.map drawA ++ (g.edges.map (drawE g) ++ (g.ins.map (drawI g) ++ g.outs.map (drawO g)))
def plcV (p : Plc) : Value := .agg #[.string (str p.name), .int .i64 p.port, .int .i64 p.place]
/-- How the drawing of an item ends: its numbers are new. -/
def DrawnE (x : Itm) (w : World) (e : Ending) (w' : World) : Prop := ∃ a c, e = .returned (.agg (itC x.kind x.name x.tag (.slice a x.nums.length c) x.frm x.tgt x.place)) ∧ CapR w.heap.size w' a c x.nums ∧ Below w.heap.size w w'
set_option maxRecDepth 100000 in
set_option maxHeartbeats 1000000 in
theorem drawPlace_any (g : GG) (a1 a2 a3 a4 : Option Addr) (c1 c2 c3 c4 : Nat) (a p : Int) (w : World) (hA : AtA w a1 g.actors) (h0 : 0 ≤ a) (hl : a < (g.actors.length : Int)) (hn : g.actors.length ≤ 1000) :
    Calls Tryz.prog 66 #[.agg #[.string (str g.name), .slice a1 g.actors.length c1, .slice a2 g.edges.length c2, .slice a3 g.ins.length c3, .slice a4 g.outs.length c4], .int .i64 a, .int .i64 p] w fun e w' => e = .returned (plcV (plcS g a p)) ∧ Below w.heap.size w w' := by
  obtain ⟨k, rfl⟩ : ∃ k : Nat, a = (k : Int) := ⟨a.toNat, by omega⟩
  have hk : k < g.actors.length := by omega
  have ba := ((Below.refl w.heap.size w).alloc (Nat.le_refl _) (.cells #[.string (str g.name), .slice a1 g.actors.length c1, .slice a2 g.edges.length c2, .slice a3 g.ins.length c3, .slice a4 g.outs.length c4] 26)).alloc (by simp) (.cells #[.string ⟨#[]⟩, .int .i64 0, .int .i64 0] 101)
  have gg := (blkA_new 26 w #[.string (str g.name), .slice a1 g.actors.length c1, .slice a2 g.edges.length c2, .slice a3 g.ins.length c3, .slice a4 g.outs.length c4]).below ((Below.refl _ _).alloc (Nat.le_refl _) (.cells #[.string ⟨#[]⟩, .int .i64 0, .int .i64 0] 101))
  have nr : BlkA 101 (w.heap.size + 1) ((w.alloc (.cells #[.string (str g.name), .slice a1 g.actors.length c1, .slice a2 g.edges.length c2, .slice a3 g.ins.length c3, .slice a4 g.outs.length c4] 26)).alloc (.cells #[.string ⟨#[]⟩, .int .i64 0, .int .i64 0] 101)) #[.string ⟨#[]⟩, .int .i64 0, .int .i64 0] := by
    have h3 := blkA_new 101 (w.alloc (.cells #[.string (str g.name), .slice a1 g.actors.length c1, .slice a2 g.edges.length c2, .slice a3 g.ins.length c3, .slice a4 g.outs.length c4] 26)) #[.string ⟨#[]⟩, .int .i64 0, .int .i64 0]
    rw [World.size_alloc] at h3
    exact h3
  have BA := hiddenG ba
  have NR := hiddenG nr
  have x1 := gg.cell (k := 1) rfl
  rcases hA with e | ⟨b, off, rfl, hc⟩
  · rw [e] at hk; exact absurd hk (Nat.not_lt_zero _)
  have hcc := cellG ba (hc k hk).1
  have hnI : (g.actors.length : Int) ≤ 1000 := by omega
  have ep : plcV (plcS g (k : Int) p) = .agg #[.string (str (nthA g.actors k).name), .int .i64 p, .int .i64 0] := by
    unfold plcV plcS
    rw [Int.toNat_natCast]
  rw [ep]
  generalize (nthA g.actors k).name = nm at *
  generalize g.actors.length = N at *
  clear hc ba gg nr ep hn
  go_enter Tryz.func66, Tryz.ntmps66
  go_upto_region 1 with fail
  generalize (w.alloc (.cells #[.string (str g.name), .slice (some ⟨b, off, none⟩) N c1, .slice a2 g.edges.length c2, .slice a3 g.ins.length c3, .slice a4 g.outs.length c4] 26)).alloc (.cells #[.string ⟨#[]⟩, .int .i64 0, .int .i64 0] 101) = W0 at *
  go_wp2_with (refine wpList_storeW _ rfl 101 (.tmp 6) (.tmp 14) rfl rfl (w.heap.size + 1) 101 _ _ rfl rfl NR.out sizQ rfl rfl ?_; intro w9 hN hU; have N9 := hiddenG hN; have U9 := hiddenG hU; clear hN hU)
  have t0 : w9.cell? ⟨w.heap.size + 1, 0, none⟩ = some (.string (str nm)) := N9.out.cell rfl
  have t1 : w9.cell? ⟨w.heap.size + 1, 1, none⟩ = some (.int .i64 p) := N9.out.cell rfl
  have t2 : w9.cell? ⟨w.heap.size + 1, 2, none⟩ = some (.int .i64 0) := N9.out.cell rfl
  refine bodyPost_ret (v := .agg #[.string (str nm), .int .i64 p, .int .i64 0]) (by simp [results, Tryz.results66, go_sem, t0, t1, t2]) rfl ?_
  exact ⟨rfl, BA.out.trans (U9.out.below (Nat.le_succ _) BA.out.size)⟩
def CopS (V : World) (zs : List Int) (u : World) (v : Value) : Prop := ∃ a c, v = .slice a zs.length c ∧ CapR V.heap.size u a c zs
theorem CopS.later {V u u' : World} {zs : List Int} {v : Value} (h : CopS V zs u v) (hb : Below u.heap.size u u') : CopS V zs u' v := by
  obtain ⟨a, c, h1, h2⟩ := h
  exact ⟨a, c, h1, h2.later hb⟩
theorem copS_of {V w w' : World} {zs : List Int} {e : Ending} (h : CopiedC w zs.length zs e w') (hV : V.heap.size ≤ w.heap.size) : ∃ v, e = .returned v ∧ Below w.heap.size w w' ∧ CopS V zs w' v := by
  obtain ⟨a, c, h1, h2, h3⟩ := h
  exact ⟨_, h1, h3, a, c, rfl, h2.mono hV⟩
set_option maxRecDepth 100000 in
set_option maxHeartbeats 2000000 in
theorem drawActor_any (a : GA) (x : Option Addr) (c : Nat) (w : World) (ht : a.tag ≤ 255) (h : Arg w x a.params.length c a.params) :
    Calls Tryz.prog 64 #[.agg #[.string (str a.name), .int .u8 (a.tag : Int), .slice x a.params.length c]] w (DrawnE (drawA a) w) := by
  have ba := ((Below.refl w.heap.size w).alloc (Nat.le_refl _) (.cells #[.string (str a.name), .int .u8 (a.tag : Int), .slice x a.params.length c] 62)).alloc (by simp) (.cells #[.int .u8 0, .string ⟨#[]⟩, .string ⟨#[]⟩, .slice none 0 0, .string ⟨#[]⟩, .int .i64 0, .int .i64 0, .string ⟨#[]⟩, .int .i64 0, .int .i64 0, .int .i64 0] 103)
  have gg := (blkA_new 62 w #[.string (str a.name), .int .u8 (a.tag : Int), .slice x a.params.length c]).below ((Below.refl _ _).alloc (Nat.le_refl _) (.cells #[.int .u8 0, .string ⟨#[]⟩, .string ⟨#[]⟩, .slice none 0 0, .string ⟨#[]⟩, .int .i64 0, .int .i64 0, .string ⟨#[]⟩, .int .i64 0, .int .i64 0, .int .i64 0] 103))
  have nr : BlkA 103 (w.heap.size + 1) ((w.alloc (.cells #[.string (str a.name), .int .u8 (a.tag : Int), .slice x a.params.length c] 62)).alloc (.cells #[.int .u8 0, .string ⟨#[]⟩, .string ⟨#[]⟩, .slice none 0 0, .string ⟨#[]⟩, .int .i64 0, .int .i64 0, .string ⟨#[]⟩, .int .i64 0, .int .i64 0, .int .i64 0] 103)) #[.int .u8 0, .string ⟨#[]⟩, .string ⟨#[]⟩, .slice none 0 0, .string ⟨#[]⟩, .int .i64 0, .int .i64 0, .string ⟨#[]⟩, .int .i64 0, .int .i64 0, .int .i64 0] := by
    have h3 := blkA_new 103 (w.alloc (.cells #[.string (str a.name), .int .u8 (a.tag : Int), .slice x a.params.length c] 62)) #[.int .u8 0, .string ⟨#[]⟩, .string ⟨#[]⟩, .slice none 0 0, .string ⟨#[]⟩, .int .i64 0, .int .i64 0, .string ⟨#[]⟩, .int .i64 0, .int .i64 0, .int .i64 0]
    rw [World.size_alloc] at h3
    exact h3
  have BA := hiddenG ba
  have NR := hiddenG nr
  have GGb := hiddenG gg
  have HA := hiddenG (h.below ba)
  have x1 := gg.cell (k := 1) rfl
  have WD := hiddenG (fun V => word_any a.tag V ht)
  have HX : Hid (drawA a = ⟨1, a.name, (wordE a.tag).1, a.params, noPlc, noPlc, 0⟩) := by rfl
  rw [HX.out]
  generalize (wordE a.tag).2 = er at *
  have hw : ∃ wd, wd = str6 (wordE a.tag).1 ∧ wd = str (wordE a.tag).1 := ⟨_, rfl, rfl⟩
  obtain ⟨wd, hw1, hw2⟩ := hw
  have HW2 := hiddenG hw2
  rw [← hw1] at WD
  generalize (wordE a.tag).1 = wl at *
  obtain ⟨nm, tg, zs⟩ := a
  simp only at *
  clear ba gg nr h hw1 hw2 HX
  go_enter Tryz.func64, Tryz.ntmps64
  go_upto_region 1 with fail
  generalize (w.alloc (.cells #[.string (str nm), .int .u8 (tg : Int), .slice x zs.length c] 62)).alloc (.cells #[.int .u8 0, .string ⟨#[]⟩, .string ⟨#[]⟩, .slice none 0 0, .string ⟨#[]⟩, .int .i64 0, .int .i64 0, .string ⟨#[]⟩, .int .i64 0, .int .i64 0, .int .i64 0] 103) = W0 at *
  go_upto_region 2 with (go_at_call 109; (with_reducible refine (WD.out _).mono ?_); rintro e w1 ⟨rfl, b1⟩; have B1 := hiddenG b1; clear b1 x1)
  have g1 := GGb.out.below B1.out
  have NR1 := hiddenG (NR.out.below B1.out)
  have CO : Hid (∀ V, Below w1.heap.size w1 V → Calls Tryz.prog 93 #[.slice x zs.length c] V (CopiedC V zs.length zs)) := fun V hb => copied_any x zs zs.length c V ((HA.out.below B1.out).below hb)
  have z0 : w1.cell? ⟨w.heap.size, 0, none⟩ = some (.string (str nm)) := g1.cell rfl
  have z2 : w1.cell? ⟨w.heap.size, 2, none⟩ = some (.slice x zs.length c) := g1.cell rfl
  clear g1
  refine wp_region_said 7 (fun i u v => match i with
      | 0 => v = .pointer (some ⟨w.heap.size, 0, none⟩)
      | 1 => v = .string (str nm)
      | 2 => v = .string wd
      | 3 => v = .pointer (some ⟨w.heap.size, 2, none⟩)
      | 4 => v = .slice x zs.length c
      | 5 => CopS w1 zs u v
      | 6 => ∃ q, v = .agg #[.int .u8 1, .string (str nm), .string wd, q, .string ⟨#[]⟩, .int .i64 0, .int .i64 0, .string ⟨#[]⟩, .int .i64 0, .int .i64 0, .int .i64 0] ∧ CopS w1 zs u q
      | _ => True) (by kernel_rfl) (by kernel_rfl) (by kernel_rfl) (by kernel_rfl) ?_ ?_ ?_
  · intro i w v w' h hb
    match i, h with
    | 0, h => exact h
    | 1, h => exact h
    | 2, h => exact h
    | 3, h => exact h
    | 4, h => exact h
    | 5, h => exact CopS.later h hb
    | 6, h => obtain ⟨q, h1, h2⟩ := h; exact ⟨q, h1, h2.later hb⟩
    | _ + 7, _ => trivial
  · intro i o ρ w' hi ho hb hc hf hfr hdep
    have k0 := cell_keep hb z0
    have k2 := cell_keep hb z2
    match i, hi with
    | 0, _ =>
      simp only [gTA, gCZ, gSI] at ho
      subst ho
      have ts : ρ (.tmp 1) = .pointer (some ⟨w.heap.size, 0, none⟩) := hfr 1 (by kernel_rfl)
      simp [go_sem, ts]
      exact ⟨Below.refl _ _, rfl⟩
    | 1, _ =>
      simp only [gTA, gCZ, gCS, gSI] at ho
      subst ho
      have ts : ρ (.tmp 11) = .pointer (some ⟨w.heap.size, 0, none⟩) := hdep 0 11 (by kernel_rfl) (by kernel_rfl)
      simp [go_sem, ts, k0]
      exact ⟨Below.refl _ _, rfl⟩
    | 2, _ =>
      simp only [gTA, gCZ, gCS, gSI] at ho
      subst ho
      have ts : ρ (.tmp 3) = .string wd := hfr 3 (by kernel_rfl)
      simp [go_sem, ts]
      exact ⟨Below.refl _ _, rfl⟩
    | 3, _ =>
      simp only [gTA, gCZ, gCS, gSI] at ho
      subst ho
      have ts : ρ (.tmp 1) = .pointer (some ⟨w.heap.size, 0, none⟩) := hfr 1 (by kernel_rfl)
      simp [go_sem, ts]
      exact ⟨Below.refl _ _, rfl⟩
    | 4, _ =>
      simp only [gTA, gCZ, gCS, gSI] at ho
      subst ho
      have ts : ρ (.tmp 14) = .pointer (some ⟨w.heap.size, 2, none⟩) := hdep 3 14 (by kernel_rfl) (by kernel_rfl)
      simp [go_sem, ts, k2]
      exact ⟨Below.refl _ _, rfl⟩
    | 5, _ =>
      simp only [gTA, gCZ, gCS, gSI] at ho
      subst ho
      have ts : ρ (.tmp 15) = .slice x zs.length c := hdep 4 15 (by kernel_rfl) (by kernel_rfl)
      simp [go_sem, ts, hf]
      exact ⟨rfl, (CO.out w' hb).mono fun e w'' hh => copS_of hh hb.size⟩
    | 6, _ =>
      simp only [gTA, gCZ, gCS, gSI] at ho
      subst ho
      obtain ⟨qa, qc, e5, h5⟩ : CopS w1 zs w' (ρ (.tmp 16)) := hdep 5 16 (by kernel_rfl) (by kernel_rfl)
      have t1 : ρ (.tmp 12) = .string (str nm) := hdep 1 12 (by kernel_rfl) (by kernel_rfl)
      have t2 : ρ (.tmp 13) = .string wd := hdep 2 13 (by kernel_rfl) (by kernel_rfl)
      simp [go_sem, e5, t1, t2, hc]
      exact ⟨Below.refl _ _, _, rfl, qa, qc, rfl, h5⟩
  · intro V w9 q9 hS
    have e0 : V 0 = .pointer (some ⟨w.heap.size, 0, none⟩) := hS 0 (by decide)
    have e1 : V 1 = .string (str nm) := hS 1 (by decide)
    have e2 : V 2 = .string wd := hS 2 (by decide)
    have e3 : V 3 = .pointer (some ⟨w.heap.size, 2, none⟩) := hS 3 (by decide)
    have e4 : V 4 = .slice x zs.length c := hS 4 (by decide)
    obtain ⟨qa5, qc5, e5, -⟩ : CopS w1 zs w9 (V 5) := hS 5 (by decide)
    obtain ⟨_, e6, qa, qc, rfl, M6⟩ : ∃ q, V 6 = .agg #[.int .u8 1, .string (str nm), .string wd, q, .string ⟨#[]⟩, .int .i64 0, .int .i64 0, .string ⟨#[]⟩, .int .i64 0, .int .i64 0, .int .i64 0] ∧ CopS w1 zs w9 q := hS 6 (by decide)
    simp only [List.drop_succ_cons, List.drop_zero, List.take_succ_cons, List.take_zero, puts, e0, e1, e2, e3, e4, e5, e6]
    clear hS e0 e1 e2 e3 e4 e5 e6 V
    simp only [Act.put, List.setIfInBounds_toArray, List.set_cons_zero, List.set_cons_succ]
    have NR9 := hiddenG (NR1.out.below q9)
    have M9 := hiddenG M6
    have B9 := hiddenG ((BA.out.trans (B1.out.mono BA.out.size)).trans (q9.mono (BA.out.trans (B1.out.mono BA.out.size)).size))
    have SW := hiddenG (Nat.le_trans BA.out.size B1.out.size)
    have SW2 : Hid (w.heap.size + 1 < w1.heap.size) := NR1.out.lt
    clear M6 q9
    go_wp2_with (refine wpList_storeW _ rfl 103 (.tmp 2) (.tmp 17) rfl rfl (w.heap.size + 1) 103 _ _ rfl rfl NR9.out sizI rfl rfl ?_; intro w8 hN hU; have N8 := hiddenG hN; have U8 := hiddenG hU; clear hN hU)
    have t0 : w8.cell? ⟨w.heap.size + 1, 0, none⟩ = some (.int .u8 1) := N8.out.cell rfl
    have t1 : w8.cell? ⟨w.heap.size + 1, 1, none⟩ = some (.string (str nm)) := N8.out.cell rfl
    have t2 : w8.cell? ⟨w.heap.size + 1, 2, none⟩ = some (.string wd) := N8.out.cell rfl
    have t3 : w8.cell? ⟨w.heap.size + 1, 3, none⟩ = some (.slice qa zs.length qc) := N8.out.cell rfl
    have t4 : w8.cell? ⟨w.heap.size + 1, 4, none⟩ = some (.string ⟨#[]⟩) := N8.out.cell rfl
    have t5 : w8.cell? ⟨w.heap.size + 1, 5, none⟩ = some (.int .i64 0) := N8.out.cell rfl
    have t6 : w8.cell? ⟨w.heap.size + 1, 6, none⟩ = some (.int .i64 0) := N8.out.cell rfl
    have t7 : w8.cell? ⟨w.heap.size + 1, 7, none⟩ = some (.string ⟨#[]⟩) := N8.out.cell rfl
    have t8 : w8.cell? ⟨w.heap.size + 1, 8, none⟩ = some (.int .i64 0) := N8.out.cell rfl
    have t9 : w8.cell? ⟨w.heap.size + 1, 9, none⟩ = some (.int .i64 0) := N8.out.cell rfl
    have t10 : w8.cell? ⟨w.heap.size + 1, 10, none⟩ = some (.int .i64 0) := N8.out.cell rfl
    refine bodyPost_ret (v := .agg #[.int .u8 1, .string (str nm), .string wd, .slice qa zs.length qc, .string ⟨#[]⟩, .int .i64 0, .int .i64 0, .string ⟨#[]⟩, .int .i64 0, .int .i64 0, .int .i64 0]) (by simp [results, Tryz.results64, go_sem, t0, t1, t2, t3, t4, t5, t6, t7, t8, t9, t10]) rfl ?_
    have hw := HW2.out
    subst hw
    refine ⟨qa, qc, rfl, ?_, B9.out.trans (U8.out.below (Nat.le_succ _) B9.out.size)⟩
    have m := M9.out.mono SW.out
    refine CapR.keep (w := w9) m fun y hy => U8.out.block _ (m.lt y hy).2 (fun e => ?_)
    exact absurd (Nat.lt_of_lt_of_le SW2.out (M9.out.lt y hy).1) (by rw [e]; exact Nat.lt_irrefl _)
set_option maxRecDepth 100000 in
set_option maxHeartbeats 4000000 in
theorem drawEdge_any (g : GG) (a1 a2 a3 a4 : Option Addr) (c1 c2 c3 c4 : Nat) (ef efp et etp : Int) (zs : List Int) (x : Option Addr) (c : Nat) (w : World) (hA : AtA w a1 g.actors) (hn : g.actors.length ≤ 1000) (f0 : 0 ≤ ef) (f1 : ef < (g.actors.length : Int)) (t0 : 0 ≤ et) (t1 : et < (g.actors.length : Int)) (h : Arg w x zs.length c zs) :
    Calls Tryz.prog 65 #[.agg #[.string (str g.name), .slice a1 g.actors.length c1, .slice a2 g.edges.length c2, .slice a3 g.ins.length c3, .slice a4 g.outs.length c4], .agg #[.int .i64 ef, .int .i64 efp, .int .i64 et, .int .i64 etp, .slice x zs.length c]] w (DrawnE (drawE g ⟨ef, efp, et, etp, zs⟩) w) := by
  have ba := (((Below.refl w.heap.size w).alloc (Nat.le_refl _) (.cells #[.string (str g.name), .slice a1 g.actors.length c1, .slice a2 g.edges.length c2, .slice a3 g.ins.length c3, .slice a4 g.outs.length c4] 26)).alloc (by simp) (.cells #[.int .i64 ef, .int .i64 efp, .int .i64 et, .int .i64 etp, .slice x zs.length c] 65)).alloc (by simp; omega) (.cells #[.int .u8 0, .string ⟨#[]⟩, .string ⟨#[]⟩, .slice none 0 0, .string ⟨#[]⟩, .int .i64 0, .int .i64 0, .string ⟨#[]⟩, .int .i64 0, .int .i64 0, .int .i64 0] 103)
  have gg := ((blkA_new 26 w #[.string (str g.name), .slice a1 g.actors.length c1, .slice a2 g.edges.length c2, .slice a3 g.ins.length c3, .slice a4 g.outs.length c4]).below ((Below.refl _ _).alloc (Nat.le_refl _) (.cells #[.int .i64 ef, .int .i64 efp, .int .i64 et, .int .i64 etp, .slice x zs.length c] 65))).below ((Below.refl _ _).alloc (Nat.le_refl _) (.cells #[.int .u8 0, .string ⟨#[]⟩, .string ⟨#[]⟩, .slice none 0 0, .string ⟨#[]⟩, .int .i64 0, .int .i64 0, .string ⟨#[]⟩, .int .i64 0, .int .i64 0, .int .i64 0] 103))
  have ge : BlkA 65 (w.heap.size + 1) (((w.alloc (.cells #[.string (str g.name), .slice a1 g.actors.length c1, .slice a2 g.edges.length c2, .slice a3 g.ins.length c3, .slice a4 g.outs.length c4] 26)).alloc (.cells #[.int .i64 ef, .int .i64 efp, .int .i64 et, .int .i64 etp, .slice x zs.length c] 65)).alloc (.cells #[.int .u8 0, .string ⟨#[]⟩, .string ⟨#[]⟩, .slice none 0 0, .string ⟨#[]⟩, .int .i64 0, .int .i64 0, .string ⟨#[]⟩, .int .i64 0, .int .i64 0, .int .i64 0] 103)) #[.int .i64 ef, .int .i64 efp, .int .i64 et, .int .i64 etp, .slice x zs.length c] := by
    have h3 := (blkA_new 65 (w.alloc (.cells #[.string (str g.name), .slice a1 g.actors.length c1, .slice a2 g.edges.length c2, .slice a3 g.ins.length c3, .slice a4 g.outs.length c4] 26)) #[.int .i64 ef, .int .i64 efp, .int .i64 et, .int .i64 etp, .slice x zs.length c]).below ((Below.refl _ _).alloc (Nat.le_refl _) (.cells #[.int .u8 0, .string ⟨#[]⟩, .string ⟨#[]⟩, .slice none 0 0, .string ⟨#[]⟩, .int .i64 0, .int .i64 0, .string ⟨#[]⟩, .int .i64 0, .int .i64 0, .int .i64 0] 103))
    rw [World.size_alloc] at h3
    exact h3
  have nr : BlkA 103 (w.heap.size + 2) (((w.alloc (.cells #[.string (str g.name), .slice a1 g.actors.length c1, .slice a2 g.edges.length c2, .slice a3 g.ins.length c3, .slice a4 g.outs.length c4] 26)).alloc (.cells #[.int .i64 ef, .int .i64 efp, .int .i64 et, .int .i64 etp, .slice x zs.length c] 65)).alloc (.cells #[.int .u8 0, .string ⟨#[]⟩, .string ⟨#[]⟩, .slice none 0 0, .string ⟨#[]⟩, .int .i64 0, .int .i64 0, .string ⟨#[]⟩, .int .i64 0, .int .i64 0, .int .i64 0] 103)) #[.int .u8 0, .string ⟨#[]⟩, .string ⟨#[]⟩, .slice none 0 0, .string ⟨#[]⟩, .int .i64 0, .int .i64 0, .string ⟨#[]⟩, .int .i64 0, .int .i64 0, .int .i64 0] := by
    have h3 := blkA_new 103 ((w.alloc (.cells #[.string (str g.name), .slice a1 g.actors.length c1, .slice a2 g.edges.length c2, .slice a3 g.ins.length c3, .slice a4 g.outs.length c4] 26)).alloc (.cells #[.int .i64 ef, .int .i64 efp, .int .i64 et, .int .i64 etp, .slice x zs.length c] 65)) #[.int .u8 0, .string ⟨#[]⟩, .string ⟨#[]⟩, .slice none 0 0, .string ⟨#[]⟩, .int .i64 0, .int .i64 0, .string ⟨#[]⟩, .int .i64 0, .int .i64 0, .int .i64 0]
    rw [World.size_alloc, World.size_alloc] at h3
    exact h3
  have BA := hiddenG ba
  have NR := hiddenG nr
  have HA := hiddenG (h.below ba)
  have AA := hiddenG (hA.below ba)
  have y0 := gg.cell (k := 0) rfl
  have y1 := gg.cell (k := 1) rfl
  have y2 := gg.cell (k := 2) rfl
  have y3 := gg.cell (k := 3) rfl
  have y4 := gg.cell (k := 4) rfl
  have z0 := ge.cell (k := 0) rfl
  have z1 := ge.cell (k := 1) rfl
  have z2 := ge.cell (k := 2) rfl
  have z3 := ge.cell (k := 3) rfl
  have z4 := ge.cell (k := 4) rfl
  have Pef : Hid (∀ V, Below (((w.alloc (.cells #[.string (str g.name), .slice a1 g.actors.length c1, .slice a2 g.edges.length c2, .slice a3 g.ins.length c3, .slice a4 g.outs.length c4] 26)).alloc (.cells #[.int .i64 ef, .int .i64 efp, .int .i64 et, .int .i64 etp, .slice x zs.length c] 65)).alloc (.cells #[.int .u8 0, .string ⟨#[]⟩, .string ⟨#[]⟩, .slice none 0 0, .string ⟨#[]⟩, .int .i64 0, .int .i64 0, .string ⟨#[]⟩, .int .i64 0, .int .i64 0, .int .i64 0] 103)).heap.size (((w.alloc (.cells #[.string (str g.name), .slice a1 g.actors.length c1, .slice a2 g.edges.length c2, .slice a3 g.ins.length c3, .slice a4 g.outs.length c4] 26)).alloc (.cells #[.int .i64 ef, .int .i64 efp, .int .i64 et, .int .i64 etp, .slice x zs.length c] 65)).alloc (.cells #[.int .u8 0, .string ⟨#[]⟩, .string ⟨#[]⟩, .slice none 0 0, .string ⟨#[]⟩, .int .i64 0, .int .i64 0, .string ⟨#[]⟩, .int .i64 0, .int .i64 0, .int .i64 0] 103)) V → Calls Tryz.prog 66 #[.agg #[.string (str g.name), .slice a1 g.actors.length c1, .slice a2 g.edges.length c2, .slice a3 g.ins.length c3, .slice a4 g.outs.length c4], .int .i64 ef, .int .i64 efp] V fun e w' => e = .returned (.agg #[.string (str (nthA g.actors ef.toNat).name), .int .i64 efp, .int .i64 0]) ∧ Below V.heap.size V w') := fun V hb => drawPlace_any g a1 a2 a3 a4 c1 c2 c3 c4 ef efp V (AA.out.below hb) f0 f1 hn
  have Pet : Hid (∀ V, Below (((w.alloc (.cells #[.string (str g.name), .slice a1 g.actors.length c1, .slice a2 g.edges.length c2, .slice a3 g.ins.length c3, .slice a4 g.outs.length c4] 26)).alloc (.cells #[.int .i64 ef, .int .i64 efp, .int .i64 et, .int .i64 etp, .slice x zs.length c] 65)).alloc (.cells #[.int .u8 0, .string ⟨#[]⟩, .string ⟨#[]⟩, .slice none 0 0, .string ⟨#[]⟩, .int .i64 0, .int .i64 0, .string ⟨#[]⟩, .int .i64 0, .int .i64 0, .int .i64 0] 103)).heap.size (((w.alloc (.cells #[.string (str g.name), .slice a1 g.actors.length c1, .slice a2 g.edges.length c2, .slice a3 g.ins.length c3, .slice a4 g.outs.length c4] 26)).alloc (.cells #[.int .i64 ef, .int .i64 efp, .int .i64 et, .int .i64 etp, .slice x zs.length c] 65)).alloc (.cells #[.int .u8 0, .string ⟨#[]⟩, .string ⟨#[]⟩, .slice none 0 0, .string ⟨#[]⟩, .int .i64 0, .int .i64 0, .string ⟨#[]⟩, .int .i64 0, .int .i64 0, .int .i64 0] 103)) V → Calls Tryz.prog 66 #[.agg #[.string (str g.name), .slice a1 g.actors.length c1, .slice a2 g.edges.length c2, .slice a3 g.ins.length c3, .slice a4 g.outs.length c4], .int .i64 et, .int .i64 etp] V fun e w' => e = .returned (.agg #[.string (str (nthA g.actors et.toNat).name), .int .i64 etp, .int .i64 0]) ∧ Below V.heap.size V w') := fun V hb => drawPlace_any g a1 a2 a3 a4 c1 c2 c3 c4 et etp V (AA.out.below hb) t0 t1 hn
  have CO : Hid (∀ V, Below (((w.alloc (.cells #[.string (str g.name), .slice a1 g.actors.length c1, .slice a2 g.edges.length c2, .slice a3 g.ins.length c3, .slice a4 g.outs.length c4] 26)).alloc (.cells #[.int .i64 ef, .int .i64 efp, .int .i64 et, .int .i64 etp, .slice x zs.length c] 65)).alloc (.cells #[.int .u8 0, .string ⟨#[]⟩, .string ⟨#[]⟩, .slice none 0 0, .string ⟨#[]⟩, .int .i64 0, .int .i64 0, .string ⟨#[]⟩, .int .i64 0, .int .i64 0, .int .i64 0] 103)).heap.size (((w.alloc (.cells #[.string (str g.name), .slice a1 g.actors.length c1, .slice a2 g.edges.length c2, .slice a3 g.ins.length c3, .slice a4 g.outs.length c4] 26)).alloc (.cells #[.int .i64 ef, .int .i64 efp, .int .i64 et, .int .i64 etp, .slice x zs.length c] 65)).alloc (.cells #[.int .u8 0, .string ⟨#[]⟩, .string ⟨#[]⟩, .slice none 0 0, .string ⟨#[]⟩, .int .i64 0, .int .i64 0, .string ⟨#[]⟩, .int .i64 0, .int .i64 0, .int .i64 0] 103)) V → Calls Tryz.prog 93 #[.slice x zs.length c] V (CopiedC V zs.length zs)) := fun V hb => copied_any x zs zs.length c V (HA.out.below hb)
  clear ba gg ge nr h hA t0 t1 f0 f1 hn AA HA
  go_enter Tryz.func65, Tryz.ntmps65
  go_upto_region 1 with fail
  generalize ((w.alloc (.cells #[.string (str g.name), .slice a1 g.actors.length c1, .slice a2 g.edges.length c2, .slice a3 g.ins.length c3, .slice a4 g.outs.length c4] 26)).alloc (.cells #[.int .i64 ef, .int .i64 efp, .int .i64 et, .int .i64 etp, .slice x zs.length c] 65)).alloc (.cells #[.int .u8 0, .string ⟨#[]⟩, .string ⟨#[]⟩, .slice none 0 0, .string ⟨#[]⟩, .int .i64 0, .int .i64 0, .string ⟨#[]⟩, .int .i64 0, .int .i64 0, .int .i64 0] 103) = W0 at *
  refine wp_region_said 16 (fun i u v => match i with
      | 0 => v = .agg #[.string (str g.name), .slice a1 g.actors.length c1, .slice a2 g.edges.length c2, .slice a3 g.ins.length c3, .slice a4 g.outs.length c4]
      | 1 => v = .pointer (some ⟨w.heap.size + 1, 0, none⟩)
      | 2 => v = .int .i64 ef
      | 3 => v = .pointer (some ⟨w.heap.size + 1, 1, none⟩)
      | 4 => v = .int .i64 efp
      | 5 => v = .agg #[.string (str (nthA g.actors ef.toNat).name), .int .i64 efp, .int .i64 0]
      | 6 => v = .agg #[.string (str g.name), .slice a1 g.actors.length c1, .slice a2 g.edges.length c2, .slice a3 g.ins.length c3, .slice a4 g.outs.length c4]
      | 7 => v = .pointer (some ⟨w.heap.size + 1, 2, none⟩)
      | 8 => v = .int .i64 et
      | 9 => v = .pointer (some ⟨w.heap.size + 1, 3, none⟩)
      | 10 => v = .int .i64 etp
      | 11 => v = .agg #[.string (str (nthA g.actors et.toNat).name), .int .i64 etp, .int .i64 0]
      | 12 => v = .pointer (some ⟨w.heap.size + 1, 4, none⟩)
      | 13 => v = .slice x zs.length c
      | 14 => CopS W0 zs u v
      | 15 => ∃ q, v = .agg #[.int .u8 2, .string ⟨#[]⟩, .string ⟨#[]⟩, q, .string (str (nthA g.actors ef.toNat).name), .int .i64 efp, .int .i64 0, .string (str (nthA g.actors et.toNat).name), .int .i64 etp, .int .i64 0, .int .i64 0] ∧ CopS W0 zs u q
      | _ => True) (by kernel_rfl) (by kernel_rfl) (by kernel_rfl) (by kernel_rfl) ?_ ?_ ?_
  · intro i w v w' h hb
    match i, h with
    | 0, h => exact h
    | 1, h => exact h
    | 2, h => exact h
    | 3, h => exact h
    | 4, h => exact h
    | 5, h => exact h
    | 6, h => exact h
    | 7, h => exact h
    | 8, h => exact h
    | 9, h => exact h
    | 10, h => exact h
    | 11, h => exact h
    | 12, h => exact h
    | 13, h => exact h
    | 14, h => exact CopS.later h hb
    | 15, h => obtain ⟨q, h1, h2⟩ := h; exact ⟨q, h1, h2.later hb⟩
    | _ + 16, _ => trivial
  · intro i o ρ w' hi ho hb hc hf hfr hdep
    have k0 := cell_keep hb y0
    have k1 := cell_keep hb y1
    have k2 := cell_keep hb y2
    have k3 := cell_keep hb y3
    have k4 := cell_keep hb y4
    have m0 := cell_keep hb z0
    have m1 := cell_keep hb z1
    have m2 := cell_keep hb z2
    have m3 := cell_keep hb z3
    have m4 := cell_keep hb z4
    match i, hi with
    | 0, _ =>
      simp only [gTA, gCZ, gSI] at ho
      subst ho
      have ts : ρ (.tmp 2) = .pointer (some ⟨w.heap.size, 0, none⟩) := hfr 2 (by kernel_rfl)
      simp [go_sem, ts, k0, k1, k2, k3, k4]
      exact ⟨Below.refl _ _, rfl⟩
    | 1, _ =>
      simp only [gTA, gCZ, gCS, gSI] at ho
      subst ho
      have ts : ρ (.tmp 3) = .pointer (some ⟨w.heap.size + 1, 0, none⟩) := hfr 3 (by kernel_rfl)
      simp [go_sem, ts]
      exact ⟨Below.refl _ _, rfl⟩
    | 2, _ =>
      simp only [gTA, gCZ, gCS, gSI] at ho
      subst ho
      have ts : ρ (.tmp 6) = .pointer (some ⟨w.heap.size + 1, 0, none⟩) := hdep 1 6 (by kernel_rfl) (by kernel_rfl)
      simp [go_sem, ts, m0]
      exact ⟨Below.refl _ _, rfl⟩
    | 3, _ =>
      simp only [gTA, gCZ, gCS, gSI] at ho
      subst ho
      have ts : ρ (.tmp 3) = .pointer (some ⟨w.heap.size + 1, 0, none⟩) := hfr 3 (by kernel_rfl)
      simp [go_sem, ts]
      exact ⟨Below.refl _ _, rfl⟩
    | 4, _ =>
      simp only [gTA, gCZ, gCS, gSI] at ho
      subst ho
      have ts : ρ (.tmp 8) = .pointer (some ⟨w.heap.size + 1, 1, none⟩) := hdep 3 8 (by kernel_rfl) (by kernel_rfl)
      simp [go_sem, ts, m1]
      exact ⟨Below.refl _ _, rfl⟩
    | 5, _ =>
      simp only [gTA, gCZ, gCS, gSI] at ho
      subst ho
      have t0 : ρ (.tmp 5) = .agg #[.string (str g.name), .slice a1 g.actors.length c1, .slice a2 g.edges.length c2, .slice a3 g.ins.length c3, .slice a4 g.outs.length c4] := hdep 0 5 (by kernel_rfl) (by kernel_rfl)
      have t1 : ρ (.tmp 7) = .int .i64 ef := hdep 2 7 (by kernel_rfl) (by kernel_rfl)
      have t2 : ρ (.tmp 9) = .int .i64 efp := hdep 4 9 (by kernel_rfl) (by kernel_rfl)
      simp [go_sem, t0, t1, t2, hf]
      exact ⟨rfl, (Pef.out w' hb).mono fun e w'' hh => ⟨_, hh.1, hh.2, rfl⟩⟩
    | 6, _ =>
      simp only [gTA, gCZ, gCS, gSI] at ho
      subst ho
      have ts : ρ (.tmp 2) = .pointer (some ⟨w.heap.size, 0, none⟩) := hfr 2 (by kernel_rfl)
      simp [go_sem, ts, k0, k1, k2, k3, k4]
      exact ⟨Below.refl _ _, rfl⟩
    | 7, _ =>
      simp only [gTA, gCZ, gCS, gSI] at ho
      subst ho
      have ts : ρ (.tmp 3) = .pointer (some ⟨w.heap.size + 1, 0, none⟩) := hfr 3 (by kernel_rfl)
      simp [go_sem, ts]
      exact ⟨Below.refl _ _, rfl⟩
    | 8, _ =>
      simp only [gTA, gCZ, gCS, gSI] at ho
      subst ho
      have ts : ρ (.tmp 12) = .pointer (some ⟨w.heap.size + 1, 2, none⟩) := hdep 7 12 (by kernel_rfl) (by kernel_rfl)
      simp [go_sem, ts, m2]
      exact ⟨Below.refl _ _, rfl⟩
    | 9, _ =>
      simp only [gTA, gCZ, gCS, gSI] at ho
      subst ho
      have ts : ρ (.tmp 3) = .pointer (some ⟨w.heap.size + 1, 0, none⟩) := hfr 3 (by kernel_rfl)
      simp [go_sem, ts]
      exact ⟨Below.refl _ _, rfl⟩
    | 10, _ =>
      simp only [gTA, gCZ, gCS, gSI] at ho
      subst ho
      have ts : ρ (.tmp 14) = .pointer (some ⟨w.heap.size + 1, 3, none⟩) := hdep 9 14 (by kernel_rfl) (by kernel_rfl)
      simp [go_sem, ts, m3]
      exact ⟨Below.refl _ _, rfl⟩
    | 11, _ =>
      simp only [gTA, gCZ, gCS, gSI] at ho
      subst ho
      have t0 : ρ (.tmp 11) = .agg #[.string (str g.name), .slice a1 g.actors.length c1, .slice a2 g.edges.length c2, .slice a3 g.ins.length c3, .slice a4 g.outs.length c4] := hdep 6 11 (by kernel_rfl) (by kernel_rfl)
      have t1 : ρ (.tmp 13) = .int .i64 et := hdep 8 13 (by kernel_rfl) (by kernel_rfl)
      have t2 : ρ (.tmp 15) = .int .i64 etp := hdep 10 15 (by kernel_rfl) (by kernel_rfl)
      simp [go_sem, t0, t1, t2, hf]
      exact ⟨rfl, (Pet.out w' hb).mono fun e w'' hh => ⟨_, hh.1, hh.2, rfl⟩⟩
    | 12, _ =>
      simp only [gTA, gCZ, gCS, gSI] at ho
      subst ho
      have ts : ρ (.tmp 3) = .pointer (some ⟨w.heap.size + 1, 0, none⟩) := hfr 3 (by kernel_rfl)
      simp [go_sem, ts]
      exact ⟨Below.refl _ _, rfl⟩
    | 13, _ =>
      simp only [gTA, gCZ, gCS, gSI] at ho
      subst ho
      have ts : ρ (.tmp 17) = .pointer (some ⟨w.heap.size + 1, 4, none⟩) := hdep 12 17 (by kernel_rfl) (by kernel_rfl)
      simp [go_sem, ts, m4]
      exact ⟨Below.refl _ _, rfl⟩
    | 14, _ =>
      simp only [gTA, gCZ, gCS, gSI] at ho
      subst ho
      have ts : ρ (.tmp 18) = .slice x zs.length c := hdep 13 18 (by kernel_rfl) (by kernel_rfl)
      simp [go_sem, ts, hf]
      exact ⟨rfl, (CO.out w' hb).mono fun e w'' hh => copS_of hh hb.size⟩
    | 15, _ =>
      simp only [gTA, gCZ, gCS, gSI] at ho
      subst ho
      obtain ⟨qa, qc, e5, h5⟩ : CopS W0 zs w' (ρ (.tmp 19)) := hdep 14 19 (by kernel_rfl) (by kernel_rfl)
      have t1 : ρ (.tmp 10) = .agg #[.string (str (nthA g.actors ef.toNat).name), .int .i64 efp, .int .i64 0] := hdep 5 10 (by kernel_rfl) (by kernel_rfl)
      have t2 : ρ (.tmp 16) = .agg #[.string (str (nthA g.actors et.toNat).name), .int .i64 etp, .int .i64 0] := hdep 11 16 (by kernel_rfl) (by kernel_rfl)
      simp [go_sem, e5, t1, t2, hc]
      exact ⟨Below.refl _ _, _, rfl, qa, qc, rfl, h5⟩
    | k + 16, h => exact absurd h (by omega)
  · intro V w9 q9 hS
    have e0 : V 0 = .agg #[.string (str g.name), .slice a1 g.actors.length c1, .slice a2 g.edges.length c2, .slice a3 g.ins.length c3, .slice a4 g.outs.length c4] := hS 0 (by decide)
    have e1 : V 1 = .pointer (some ⟨w.heap.size + 1, 0, none⟩) := hS 1 (by decide)
    have e2 : V 2 = .int .i64 ef := hS 2 (by decide)
    have e3 : V 3 = .pointer (some ⟨w.heap.size + 1, 1, none⟩) := hS 3 (by decide)
    have e4 : V 4 = .int .i64 efp := hS 4 (by decide)
    have e5 : V 5 = .agg #[.string (str (nthA g.actors ef.toNat).name), .int .i64 efp, .int .i64 0] := hS 5 (by decide)
    have e6 : V 6 = .agg #[.string (str g.name), .slice a1 g.actors.length c1, .slice a2 g.edges.length c2, .slice a3 g.ins.length c3, .slice a4 g.outs.length c4] := hS 6 (by decide)
    have e7 : V 7 = .pointer (some ⟨w.heap.size + 1, 2, none⟩) := hS 7 (by decide)
    have e8 : V 8 = .int .i64 et := hS 8 (by decide)
    have e9 : V 9 = .pointer (some ⟨w.heap.size + 1, 3, none⟩) := hS 9 (by decide)
    have e10 : V 10 = .int .i64 etp := hS 10 (by decide)
    have e11 : V 11 = .agg #[.string (str (nthA g.actors et.toNat).name), .int .i64 etp, .int .i64 0] := hS 11 (by decide)
    have e12 : V 12 = .pointer (some ⟨w.heap.size + 1, 4, none⟩) := hS 12 (by decide)
    have e13 : V 13 = .slice x zs.length c := hS 13 (by decide)
    obtain ⟨qa5, qc5, e14, -⟩ : CopS W0 zs w9 (V 14) := hS 14 (by decide)
    obtain ⟨_, e15, qa, qc, rfl, M6⟩ : ∃ q, V 15 = .agg #[.int .u8 2, .string ⟨#[]⟩, .string ⟨#[]⟩, q, .string (str (nthA g.actors ef.toNat).name), .int .i64 efp, .int .i64 0, .string (str (nthA g.actors et.toNat).name), .int .i64 etp, .int .i64 0, .int .i64 0] ∧ CopS W0 zs w9 q := hS 15 (by decide)
    simp only [List.drop_succ_cons, List.drop_zero, List.take_succ_cons, List.take_zero, puts, e0, e1, e2, e3, e4, e5, e6, e7, e8, e9, e10, e11, e12, e13, e14, e15]
    clear hS e0 e1 e2 e3 e4 e5 e6 e7 e8 e9 e10 e11 e12 e13 e14 e15 V
    simp only [Act.put, List.setIfInBounds_toArray, List.set_cons_zero, List.set_cons_succ]
    have NR9 := hiddenG (NR.out.below q9)
    have M9 := hiddenG M6
    have B9 := hiddenG (BA.out.trans (q9.mono BA.out.size))
    have SW2 : Hid (w.heap.size + 2 < W0.heap.size) := NR.out.lt
    clear M6 q9
    go_wp2_with (refine wpList_storeW _ rfl 103 (.tmp 4) (.tmp 20) rfl rfl (w.heap.size + 2) 103 _ _ rfl rfl NR9.out sizI rfl rfl ?_; intro w8 hN hU; have N8 := hiddenG hN; have U8 := hiddenG hU; clear hN hU)
    have r0 : w8.cell? ⟨w.heap.size + 2, 0, none⟩ = some (.int .u8 2) := N8.out.cell rfl
    have r1 : w8.cell? ⟨w.heap.size + 2, 1, none⟩ = some (.string ⟨#[]⟩) := N8.out.cell rfl
    have r2 : w8.cell? ⟨w.heap.size + 2, 2, none⟩ = some (.string ⟨#[]⟩) := N8.out.cell rfl
    have r3 : w8.cell? ⟨w.heap.size + 2, 3, none⟩ = some (.slice qa zs.length qc) := N8.out.cell rfl
    have r4 : w8.cell? ⟨w.heap.size + 2, 4, none⟩ = some (.string (str (nthA g.actors ef.toNat).name)) := N8.out.cell rfl
    have r5 : w8.cell? ⟨w.heap.size + 2, 5, none⟩ = some (.int .i64 efp) := N8.out.cell rfl
    have r6 : w8.cell? ⟨w.heap.size + 2, 6, none⟩ = some (.int .i64 0) := N8.out.cell rfl
    have r7 : w8.cell? ⟨w.heap.size + 2, 7, none⟩ = some (.string (str (nthA g.actors et.toNat).name)) := N8.out.cell rfl
    have r8 : w8.cell? ⟨w.heap.size + 2, 8, none⟩ = some (.int .i64 etp) := N8.out.cell rfl
    have r9 : w8.cell? ⟨w.heap.size + 2, 9, none⟩ = some (.int .i64 0) := N8.out.cell rfl
    have r10 : w8.cell? ⟨w.heap.size + 2, 10, none⟩ = some (.int .i64 0) := N8.out.cell rfl
    refine bodyPost_ret (v := .agg #[.int .u8 2, .string ⟨#[]⟩, .string ⟨#[]⟩, .slice qa zs.length qc, .string (str (nthA g.actors ef.toNat).name), .int .i64 efp, .int .i64 0, .string (str (nthA g.actors et.toNat).name), .int .i64 etp, .int .i64 0, .int .i64 0]) (by simp [results, Tryz.results65, go_sem, r0, r1, r2, r3, r4, r5, r6, r7, r8, r9, r10]) rfl ?_
    refine ⟨qa, qc, rfl, ?_, B9.out.trans (U8.out.below (Nat.le_trans (Nat.le_succ _) (Nat.le_succ _)) B9.out.size)⟩
    have m := M9.out.mono (Nat.le_trans (Nat.le_trans (Nat.le_succ _) (Nat.le_succ _)) (Nat.le_of_lt SW2.out))
    refine CapR.keep (w := w9) m fun y hy => U8.out.block _ (m.lt y hy).2 (fun e => ?_)
    exact absurd (Nat.lt_of_lt_of_le SW2.out (M9.out.lt y hy).1) (by rw [e]; exact Nat.lt_irrefl _)
theorem Tryz.infoIT : (Tryz.prog.info? 103).map (fun i => (i.zero, i.size, i.bytes)) = some (some (.agg #[.int .u8 0, .string ⟨#[]⟩, .string ⟨#[]⟩, .slice none 0 0, .string ⟨#[]⟩, .int .i64 0, .int .i64 0, .string ⟨#[]⟩, .int .i64 0, .int .i64 0, .int .i64 0]), 11, 136) := by kernel_rfl
theorem itP_one (x : Itm) (a : Option Addr) (n c : Nat) : ∀ u ∈ itP (x, .slice a n c), u.oneCell' = true := by
  intro u hu
  simp only [itP, itC, List.mem_cons, List.not_mem_nil, or_false] at hu
  rcases hu with rfl | rfl | rfl | rfl | rfl | rfl | rfl | rfl | rfl | rfl | rfl <;> rfl
/-- An item's value; its numbers are new since V. -/
def ItV (V : World) (x : Itm) (u : World) (v : Value) : Prop := ∃ a c, v = .agg (itC x.kind x.name x.tag (.slice a x.nums.length c) x.frm x.tgt x.place) ∧ CapR V.heap.size u a c x.nums
def ItC (V : World) (x : Itm) (u : World) (v : Value) : Prop := ∃ h a c, v = .slice (some ⟨h, 0, none⟩) 1 1 ∧ (∀ k y, (itP (x, .slice a x.nums.length c))[k]? = some y → u.cell? ⟨h, k, none⟩ = some y) ∧ CapR V.heap.size u a c x.nums
theorem ItV.later {V u u' : World} {x : Itm} {v : Value} (h : ItV V x u v) (hb : Below u.heap.size u u') : ItV V x u' v := by
  obtain ⟨a, c, h1, h2⟩ := h
  exact ⟨a, c, h1, h2.later hb⟩
theorem ItC.later {V u u' : World} {x : Itm} {v : Value} (h : ItC V x u v) (hb : Below u.heap.size u u') : ItC V x u' v := by
  obtain ⟨g, a, c, h1, h2, h3⟩ := h
  exact ⟨g, a, c, h1, fun k y hy => cell_keep hb (h2 k y hy), h3.later hb⟩
theorem itV_of {V w w' : World} {x : Itm} {e : Ending} (h : DrawnE x w e w') (hV : V.heap.size ≤ w.heap.size) : ∃ v, e = .returned v ∧ Below w.heap.size w w' ∧ ItV V x w' v := by
  obtain ⟨a, c, h1, h2, h3⟩ := h
  exact ⟨_, h1, h3, a, c, rfl, h2.mono hV⟩
theorem itC_new {V u : World} {x : Itm} {a : Option Addr} {c : Nat} (h : CapR V.heap.size u a c x.nums) (T : TypeId) : ItC V x (u.alloc (.cells (itC x.kind x.name x.tag (.slice a x.nums.length c) x.frm x.tgt x.place) T)) (.slice (some ⟨u.heap.size, 0, none⟩) 1 1) :=
  ⟨u.heap.size, a, c, rfl, fun k y hy => (blkA_new T u _).cell (by rw [← Array.getElem?_toList]; exact hy), h.later ((Below.refl _ _).alloc (Nat.le_refl _) _)⟩
structure DrS (w : World) (K : Nat) (g : GG) (a1 a2 a3 a4 : Option Addr) (c1 c2 c3 c4 : Nat) (v : Value) (M : List (Itm × Value)) (wr : World) : Prop where
  gb : BlkA 26 w.heap.size wr #[.string (str g.name), .slice a1 g.actors.length c1, .slice a2 g.edges.length c2, .slice a3 g.ins.length c3, .slice a4 g.outs.length c4]
  rb : BlkA 52 (w.heap.size + 1) wr #[.string ⟨#[]⟩, .slice none 0 0]
  sb : BlkA 52 K wr #[.string (str g.name), v]
  its : Its (K + 1) wr v M
  bel : Below w.heap.size w wr
  hk : w.heap.size + 1 < K
  big : K + 1 ≤ wr.heap.size
theorem DrS.below {w K g a1 a2 a3 a4 c1 c2 c3 c4 v M} {wr w2 : World} (h : DrS w K g a1 a2 a3 a4 c1 c2 c3 c4 v M wr) (hb : Below wr.heap.size wr w2) : DrS w K g a1 a2 a3 a4 c1 c2 c3 c4 v M w2 :=
  ⟨h.gb.below hb, h.rb.below hb, h.sb.below hb, h.its.below hb, h.bel.trans (hb.mono h.bel.size), h.hk, Nat.le_trans h.big hb.size⟩
theorem DrS.put {w K g a1 a2 a3 a4 c1 c2 c3 c4 v M} {V : World} (h : DrS w K g a1 a2 a3 a4 c1 c2 c3 c4 v M V) {w2 w4 : World} {x : Itm} {q v' : Value} (hb : Below V.heap.size V w2) (hq : Ints V.heap.size w2 q x.nums)
    (ho : w4.ownsRow (K + 1) 103 11 v' (M.length + 1) (M.flatMap itP ++ itP (x, q)))
    (ht : (∃ g cap, v = .slice (some ⟨g, 0, none⟩) M.length cap ∧ v' = .slice (some ⟨g, 0, none⟩) (M.length + 1) cap ∧ w2.grownBy w4 (some g)) ∨ (∃ cap, v' = .slice (some ⟨w2.heap.size, 0, none⟩) (M.length + 1) cap ∧ w2.grownBy w4 none)) :
    DrS w K g a1 a2 a3 a4 c1 c2 c3 c4 v' (M ++ [(x, q)]) (w4.setCell ⟨K, 1, none⟩ v') ∧ BlkA 52 K w4 #[.string (str g.name), v] := by
  have hbig := h.big
  have hkk := h.hk
  have hsz := hb.size
  have i1 := h.its.below hb
  have i2 := i1.app hq (fun k hk => by
    rcases hk with hk | ⟨p, hp, hk⟩
    · have := own_lt h.its.row k hk; omega
    · have := own_lt (h.its.nums p hp) k hk; omega) (by omega) ho ht
  have hg : ∃ row, w2.grownBy w4 row ∧ ∀ k, row = some k → K + 1 ≤ k := by
    rcases ht with ⟨g, cap, e, -, hg⟩ | ⟨cap, -, hg⟩
    · refine ⟨_, hg, fun k hk => ?_⟩
      cases hk
      exact own_row h.its.row g (by rw [e]; rfl)
    · exact ⟨_, hg, fun k hk => by cases hk⟩
  obtain ⟨row, hg, hrow⟩ := hg
  have kp : ∀ d, d < K + 1 → w4.heap[d]? = V.heap[d]? := fun d hd => (hg.block d (by omega) (fun e => by have := hrow d e.symm; omega)).trans (hb.block d (by omega))
  have b3 := h.sb.keep (kp K (by omega))
  have set : ∀ k, k ≠ K → (w4.setCell ⟨K, 1, none⟩ v').heap[k]? = w4.heap[k]? := fun k hk => Below.heap_setCell w4 ⟨K, 1, none⟩ v' k hk
  refine ⟨⟨h.gb.keep ((set _ (by omega)).trans (kp _ (by omega))), h.rb.keep ((set _ (by omega)).trans (kp _ (by omega))), b3.set 1 v', i2.put (by omega), ?_, h.hk, ?_⟩, b3⟩
  · have h1 : Below w.heap.size w w2 := h.bel.trans (hb.mono h.bel.size)
    exact (below_grownO h1 hg (fun k hk => by have := hrow k hk; omega) h1.size).setCell (p := ⟨K, 1, none⟩) (by show w.heap.size ≤ K; omega) _
  · have := hg.size
    rw [World.size_setCell]
    omega
theorem told_shape {v v' : Value} {n : Nat} {w2 w4 : World} (ht : (∃ g cap, v = .slice (some ⟨g, 0, none⟩) n cap ∧ v' = .slice (some ⟨g, 0, none⟩) (n + 1) cap ∧ w2.grownBy w4 (some g)) ∨ (∃ cap, v' = .slice (some ⟨w2.heap.size, 0, none⟩) (n + 1) cap ∧ w2.grownBy w4 none)) : ∃ a c, v' = .slice a (n + 1) c := by
  rcases ht with ⟨g, cap, -, e, -⟩ | ⟨cap, e, -⟩ <;> exact ⟨_, _, e⟩
/-- How the drawing of a graph ends. -/
def DrawEnd (g : GG) (w : World) (e : Ending) (w' : World) : Prop :=
  if (firstF g).code = 0 then ∃ a c M, e = .returned (.tuple #[.agg #[.string (str g.name), .slice a M.length c], .int .i64 0]) ∧ M.map Prod.fst = drawS g ∧ Its w.heap.size w' (.slice a M.length c) M ∧ Below w.heap.size w w'
  else e = .returned (.tuple #[.agg #[.string ⟨#[]⟩, .slice none 0 0], .int .i64 (firstF g).code]) ∧ Below w.heap.size w w'
theorem its_but {w w' v L} {I K : Nat} (h : Its (K + 1) w v L) (hU : But I w w') (hI : I < K) : Its (K + 1) w' v L := by
  have kp : ∀ k, K + 1 ≤ k → k < w.heap.size → w'.heap[k]? = w.heap[k]? := fun k h1 h2 => hU.block k h2 (by omega)
  exact ⟨ownR_keep h.row fun k e => kp k (own_row h.row k e) (own_lt h.row k e), fun p hp => ownR_keep (h.nums p hp) fun k e => kp k (own_row (h.nums p hp) k e) (own_lt (h.nums p hp) k e), h.off, h.pair⟩
set_option maxRecDepth 100000 in
set_option maxHeartbeats 16000000 in
theorem draw_any (g : GG) (a1 a2 a3 a4 : Option Addr) (c1 c2 c3 c4 : Nat) (w : World) (h : GrG w a1 a2 a3 a4 g) :
    Calls Tryz.prog 38 #[.agg #[.string (str g.name), .slice a1 g.actors.length c1, .slice a2 g.edges.length c2, .slice a3 g.ins.length c3, .slice a4 g.outs.length c4]] w (DrawEnd g w) := by
  have ba := ((Below.refl w.heap.size w).alloc (Nat.le_refl _) (.cells #[.string (str g.name), .slice a1 g.actors.length c1, .slice a2 g.edges.length c2, .slice a3 g.ins.length c3, .slice a4 g.outs.length c4] 26)).alloc (by simp) (.cells #[.string ⟨#[]⟩, .slice none 0 0] 52)
  have gg := (blkA_new 26 w #[.string (str g.name), .slice a1 g.actors.length c1, .slice a2 g.edges.length c2, .slice a3 g.ins.length c3, .slice a4 g.outs.length c4]).below ((Below.refl _ _).alloc (Nat.le_refl _) (.cells #[.string ⟨#[]⟩, .slice none 0 0] 52))
  have nr : BlkA 52 (w.heap.size + 1) ((w.alloc (.cells #[.string (str g.name), .slice a1 g.actors.length c1, .slice a2 g.edges.length c2, .slice a3 g.ins.length c3, .slice a4 g.outs.length c4] 26)).alloc (.cells #[.string ⟨#[]⟩, .slice none 0 0] 52)) #[.string ⟨#[]⟩, .slice none 0 0] := by
    have h3 := blkA_new 52 (w.alloc (.cells #[.string (str g.name), .slice a1 g.actors.length c1, .slice a2 g.edges.length c2, .slice a3 g.ins.length c3, .slice a4 g.outs.length c4] 26)) #[.string ⟨#[]⟩, .slice none 0 0]
    rw [World.size_alloc] at h3
    exact h3
  have BA := hiddenG ba
  have GB := hiddenG gg
  have NR := hiddenG nr
  have HG := hiddenG h
  have CK := hiddenG (check_any g a1 a2 a3 a4 c1 c2 c3 c4 _ (h.below ba))
  have y0 := gg.cell (k := 0) rfl
  have y1 := gg.cell (k := 1) rfl
  have y2 := gg.cell (k := 2) rfl
  have y3 := gg.cell (k := 3) rfl
  have y4 := gg.cell (k := 4) rfl
  have HE : Hid (DrawEnd g w = DrawEnd g w) := hiddenG rfl
  by_cases h0 : (firstF g).code = 0
  · have HS := hiddenG ((sound_iff g).1 h0)
    have HO := head_ok HS.out.head
    have H1 : Hid (∀ e w', (∃ a c M, e = .returned (.tuple #[.agg #[.string (str g.name), .slice a M.length c], .int .i64 0]) ∧ M.map Prod.fst = drawS g ∧ Its w.heap.size w' (.slice a M.length c) M ∧ Below w.heap.size w w') → DrawEnd g w e w') := fun e w' q => by
      unfold DrawEnd
      rw [if_pos h0]
      exact q
    rw [h0] at CK
    obtain ⟨i0, hi, hz0, hz1, hz2⟩ := info_parts Tryz.infoIT
    have HJ := hiddenG hi
    have HJ0 := hiddenG hz0
    have HJ1 := hiddenG hz1
    have HJ2 := hiddenG hz2
    clear ba gg nr h h0 HE hi hz0 hz1 hz2
    have n1 : (g.actors.length : Int) ≤ 32 := by omega
    have n2 : (g.edges.length : Int) ≤ 96 := by omega
    have n3 : (g.ins.length : Int) ≤ 16 := by omega
    have n4 : (g.outs.length : Int) ≤ 16 := by omega
    have HLM : Hid (g.actors.length ≤ 32 ∧ g.edges.length ≤ 96 ∧ g.ins.length ≤ 16 ∧ g.outs.length ≤ 16) := ⟨HO.2.2.1, HO.2.2.2.1, HO.2.2.2.2.1, HO.2.2.2.2.2⟩
    clear HO
    go_enter Tryz.func38, Tryz.ntmps38
    go_upto_region 1 with fail
    generalize (w.alloc (.cells #[.string (str g.name), .slice a1 g.actors.length c1, .slice a2 g.edges.length c2, .slice a3 g.ins.length c3, .slice a4 g.outs.length c4] 26)).alloc (.cells #[.string ⟨#[]⟩, .slice none 0 0] 52) = W0 at *
    go_upto_region 4 with (go_at_call 21; (with_reducible refine CK.out.mono ?_); rintro e w1 ⟨rfl, b1⟩; have B1 := hiddenG b1; clear b1 y0 y1 y2 y3 y4)
    have G1 := hiddenG (GB.out.below B1.out)
    have y0 : w1.cell? ⟨w.heap.size, 0, none⟩ = some (.string (str g.name)) := G1.out.cell rfl
    go_upto_region 5 with fail
    have D0 : Hid (DrS w w1.heap.size g a1 a2 a3 a4 c1 c2 c3 c4 (.slice none 0 0) [] (w1.alloc (.cells #[.string (str g.name), .slice none 0 0] 52))) := by
      have bw := (Below.refl w1.heap.size w1).alloc (Nat.le_refl _) (.cells #[.string (str g.name), .slice none 0 0] 52)
      have b2 := BA.out.trans (B1.out.mono BA.out.size)
      have rb := NR.out.below B1.out
      exact ⟨G1.out.below bw, rb.below bw, blkA_new 52 w1 _, its_nil _ _, b2.trans (bw.mono b2.size), rb.lt, by rw [World.size_alloc]; exact Nat.le_refl _⟩
    generalize w1.alloc (.cells #[.string (str g.name), .slice none 0 0] 52) = W1 at *
    generalize w1.heap.size = K at *
    clear y0 G1 B1 NR GB BA CK
    have y1 : W1.cell? ⟨w.heap.size, 1, none⟩ = some (.slice a1 g.actors.length c1) := D0.out.gb.cell rfl
    go_wp2
    go_loopg [26] g.actors.length (fun gk v wr => ∃ (k : Nat) (va : Option Addr) (vc : Nat) (M : List (Itm × Value)), k ≤ g.actors.length ∧ gk = g.actors.length - k ∧ v = .int .i64 (k : Int) ∧ M.map Prod.fst = [] ++ (g.actors.take k).map drawA ∧ DrS w K g a1 a2 a3 a4 c1 c2 c3 c4 (.slice va M.length vc) M wr)
    case atStart => exact ⟨0, none, 0, [], Nat.zero_le _, rfl, rfl, rfl, D0.out⟩
    case round =>
      obtain ⟨k, va, vc, M, hk, rfl, rfl, hM, hD⟩ := hrel
      have DD := hiddenG hD
      have MM := hiddenG hM
      clear hM hD
      have LM : M.length ≤ 160 := by
        have q := congrArg List.length MM.out
        have := HLM.out
        simp only [List.length_map, List.length_append, List.length_take, List.length_nil] at q
        omega
      by_cases hlt : k < g.actors.length
      · have hki : (k : Int) < (g.actors.length : Int) := by omega
        rcases (HG.out.below (DD.out.bel.mono (Nat.le_refl _))).A with e | ⟨b, off, rfl, hc⟩
        · rw [e] at hlt; exact absurd hlt (Nat.not_lt_zero _)
        obtain ⟨k0, k1, k2, x, c, k3, k4⟩ := hc k hlt
        have HAR := hiddenG k4
        have HTG := hiddenG k2
        have TK := hiddenG (take_A hlt)
        generalize nthA g.actors k = E at *
        obtain ⟨nm, tg, ps⟩ := E
        simp only at k0 k1 k3 HAR HTG
        clear hc k2 k4
        go_upto_region 8 with fail
        have bv := (Below.refl wr.heap.size wr).alloc (Nat.le_refl _) (.cells #[.string (str nm), .int .u8 (tg : Int), .slice x ps.length c] 62)
        have DV := hiddenG (DD.out.below bv)
        have bx := blkA_new 62 wr #[.string (str nm), .int .u8 (tg : Int), .slice x ps.length c]
        have bb0 := bx.cell (k := 0) rfl
        have bb1 := bx.cell (k := 1) rfl
        have bb2 := bx.cell (k := 2) rfl
        have kk : (wr.alloc (.cells #[.string (str nm), .int .u8 (tg : Int), .slice x ps.length c] 62)).cell? ⟨K, 1, none⟩ = some (.slice va M.length vc) := DV.out.sb.cell rfl
        have gx0 : (wr.alloc (.cells #[.string (str nm), .int .u8 (tg : Int), .slice x ps.length c] 62)).cell? ⟨w.heap.size, 0, none⟩ = some (.string (str g.name)) := DV.out.gb.cell rfl
        have gx1 : (wr.alloc (.cells #[.string (str nm), .int .u8 (tg : Int), .slice x ps.length c] 62)).cell? ⟨w.heap.size, 1, none⟩ = some (.slice (some ⟨b, off, none⟩) g.actors.length c1) := DV.out.gb.cell rfl
        have gx2 : (wr.alloc (.cells #[.string (str nm), .int .u8 (tg : Int), .slice x ps.length c] 62)).cell? ⟨w.heap.size, 2, none⟩ = some (.slice a2 g.edges.length c2) := DV.out.gb.cell rfl
        have gx3 : (wr.alloc (.cells #[.string (str nm), .int .u8 (tg : Int), .slice x ps.length c] 62)).cell? ⟨w.heap.size, 3, none⟩ = some (.slice a3 g.ins.length c3) := DV.out.gb.cell rfl
        have gx4 : (wr.alloc (.cells #[.string (str nm), .int .u8 (tg : Int), .slice x ps.length c] 62)).cell? ⟨w.heap.size, 4, none⟩ = some (.slice a4 g.outs.length c4) := DV.out.gb.cell rfl
        have CA : Hid (∀ U, Below (wr.alloc (.cells #[.string (str nm), .int .u8 (tg : Int), .slice x ps.length c] 62)).heap.size (wr.alloc (.cells #[.string (str nm), .int .u8 (tg : Int), .slice x ps.length c] 62)) U → Calls Tryz.prog 64 #[.agg #[.string (str nm), .int .u8 (tg : Int), .slice x ps.length c]] U (DrawnE (drawA ⟨nm, tg, ps⟩) U)) := fun U hb => drawActor_any ⟨nm, tg, ps⟩ x c U HTG.out ((HAR.out.below bv).below hb)
        clear bx k0 k1 k3
        have BV := hiddenG bv
        clear bv
        generalize wr.alloc (.cells #[.string (str nm), .int .u8 (tg : Int), .slice x ps.length c] 62) = V at *
        refine wp_region_said 5 (fun i u v => match i with
            | 0 => v = .pointer (some ⟨K, 1, none⟩)
            | 1 => v = .slice va M.length vc
            | 2 => v = .agg #[.string (str nm), .int .u8 (tg : Int), .slice x ps.length c]
            | 3 => ItV V (drawA ⟨nm, tg, ps⟩) u v
            | 4 => ItC V (drawA ⟨nm, tg, ps⟩) u v
            | _ => True) (by kernel_rfl) (by kernel_rfl) (by kernel_rfl) (by kernel_rfl) ?_ ?_ ?_
        · intro i w v w' h hb
          match i, h with
          | 0, h => exact h
          | 1, h => exact h
          | 2, h => exact h
          | 3, h => exact ItV.later h hb
          | 4, h => exact ItC.later h hb
          | _ + 5, _ => trivial
        · intro i o ρ w' hi ho hb hc hf hfr hdep
          have kS := cell_keep hb kk
          have b0 := cell_keep hb bb0
          have b1 := cell_keep hb bb1
          have b2 := cell_keep hb bb2
          have g0 := cell_keep hb gx0
          have g1 := cell_keep hb gx1
          have g2 := cell_keep hb gx2
          have g3 := cell_keep hb gx3
          have g4 := cell_keep hb gx4
          match i, hi with
          | 0, _ =>
            simp only [gTA, gCZ, gSI] at ho
            subst ho
            have ts : ρ (.tmp 5) = .pointer (some ⟨K, 0, none⟩) := hfr 5 (by kernel_rfl)
            simp [go_sem, ts]
            exact ⟨Below.refl _ _, rfl⟩
          | 1, _ =>
            simp only [gTA, gCZ, gCS, gSI] at ho
            subst ho
            have ts : ρ (.tmp 30) = .pointer (some ⟨K, 1, none⟩) := hdep 0 30 (by kernel_rfl) (by kernel_rfl)
            simp [go_sem, ts, kS]
            exact ⟨Below.refl _ _, rfl⟩
          | 2, _ =>
            simp only [gTA, gCZ, gCS, gSI] at ho
            subst ho
            have ts : ρ (.tmp 7) = .pointer (some ⟨wr.heap.size, 0, none⟩) := hfr 7 (by kernel_rfl)
            simp [go_sem, ts, b0, b1, b2]
            exact ⟨Below.refl _ _, rfl⟩
          | 3, _ =>
            simp only [gTA, gCZ, gCS, gSI] at ho
            subst ho
            have t0 : ρ (.tmp 32) = .agg #[.string (str nm), .int .u8 (tg : Int), .slice x ps.length c] := hdep 2 32 (by kernel_rfl) (by kernel_rfl)
            simp [go_sem, t0, hf]
            exact ⟨rfl, (CA.out w' hb).mono fun e w'' hh => itV_of hh hb.size⟩
          | 4, _ =>
            simp only [gTA, gCZ, gCS, gSI] at ho
            subst ho
            obtain ⟨qa, qc, e3, h3⟩ : ItV V (drawA ⟨nm, tg, ps⟩) w' (ρ (.tmp 33)) := hdep 3 33 (by kernel_rfl) (by kernel_rfl)
            simp [go_sem, e3, itC]
            exact ⟨(Below.refl _ _).alloc (Nat.le_refl _) _, itC_new h3 _⟩
        · intro V9 w9 q9 hS
          have e0 : V9 0 = .pointer (some ⟨K, 1, none⟩) := hS 0 (by decide)
          have e1 : V9 1 = .slice va M.length vc := hS 1 (by decide)
          have e2 : V9 2 = .agg #[.string (str nm), .int .u8 (tg : Int), .slice x ps.length c] := hS 2 (by decide)
          obtain ⟨qa3, qc3, e3, -⟩ : ItV V (drawA ⟨nm, tg, ps⟩) w9 (V9 3) := hS 3 (by decide)
          obtain ⟨hx, qa, qc, e4, Q1, Q2⟩ : ItC V (drawA ⟨nm, tg, ps⟩) w9 (V9 4) := hS 4 (by decide)
          simp only [List.drop_succ_cons, List.drop_zero, List.take_succ_cons, List.take_zero, puts, e0, e1, e2, e3, e4]
          clear hS e0 e1 e2 e3 e4 V9
          simp only [Act.put, List.setIfInBounds_toArray, List.set_cons_zero, List.set_cons_succ]
          have D9 := hiddenG DV.out
          have B9 := hiddenG q9
          have C9 := hiddenG Q1
          have N9 := hiddenG Q2
          clear Q1 Q2 q9 DV CA bb0 bb1 bb2 gx0 gx1 gx2 gx3 gx4 kk
          go_wp2_with (at_builtin; refine wpList_append_told _ rfl (.tmp 31) (.tmp 34) 50 rfl (K + 1) 103 i0 (.agg #[.int .u8 0, .string ⟨#[]⟩, .string ⟨#[]⟩, .slice none 0 0, .string ⟨#[]⟩, .int .i64 0, .int .i64 0, .string ⟨#[]⟩, .int .i64 0, .int .i64 0, .int .i64 0]) 11 136 Tryz.underlying50 HJ.out HJ0.out HJ1.out HJ2.out rfl (by decide) (.slice va M.length vc) M.length (M.flatMap itP) rfl (owns_below D9.out.its.row B9.out) ⟨hx, 0, none⟩ 1 1 (by decide) (itP ((drawA ⟨nm, tg, ps⟩), .slice qa (drawA ⟨nm, tg, ps⟩).nums.length qc)) rfl rfl (fun j u hu => by rw [add_zero5]; exact C9.out j u hu) (itP_one _ _ _ _) (by unfold maxLen; omega) (by omega) (Nat.le_trans D9.out.big B9.out.size) ?_; intro v' w4 ho ht; obtain ⟨D10, bk⟩ := D9.out.put B9.out (x := (drawA ⟨nm, tg, ps⟩)) (q := .slice qa (drawA ⟨nm, tg, ps⟩).nums.length qc) N9.out ho ht; obtain ⟨va4, vc4, rfl⟩ := told_shape ht; have E10 := hiddenG D10; have s1 : w4.cell? ⟨K, 1, none⟩ = some (.slice va M.length vc) := bk.cell rfl; have f1 := bk.frozen 1; clear ho ht D10 bk)
          go_roundg (g.actors.length - (k + 1))
          case measure => omega
          case rel => exact ⟨k + 1, va4, vc4, M ++ [((drawA ⟨nm, tg, ps⟩), .slice qa (drawA ⟨nm, tg, ps⟩).nums.length qc)], by omega, rfl, by go_num, by rw [List.map_append, MM.out, TK.out, List.map_append, List.append_assoc]; rfl, by rw [List.length_append]; exact E10.out⟩
      · have ek : k = g.actors.length := by omega
        have MM0 : Hid (M.map Prod.fst = [] ++ g.actors.map drawA) := by
          have e := MM.out
          rw [ek, List.take_length] at e
          exact e
        have hki : ¬ (k : Int) < (g.actors.length : Int) := by omega
        clear MM ek
        have y2 : wr.cell? ⟨w.heap.size, 2, none⟩ = some (.slice a2 g.edges.length c2) := DD.out.gb.cell rfl
        go_wp2
        go_loopg [41] g.edges.length (fun gk v wr => ∃ (k : Nat) (va : Option Addr) (vc : Nat) (M : List (Itm × Value)), k ≤ g.edges.length ∧ gk = g.edges.length - k ∧ v = .int .i64 (k : Int) ∧ M.map Prod.fst = g.actors.map drawA ++ (g.edges.take k).map (drawE g) ∧ DrS w K g a1 a2 a3 a4 c1 c2 c3 c4 (.slice va M.length vc) M wr)
        case atStart => exact ⟨0, va, vc, M, Nat.zero_le _, rfl, rfl, by rw [List.take_zero, List.map_nil, List.append_nil]; exact MM0.out, DD.out⟩
        case round =>
          obtain ⟨k, va, vc, M, hk, rfl, rfl, hM, hD⟩ := hrel
          have DD := hiddenG hD
          have MM := hiddenG hM
          clear hM hD
          have LM : M.length ≤ 160 := by
            have q := congrArg List.length MM.out
            have := HLM.out
            simp only [List.length_map, List.length_append, List.length_take] at q
            omega
          by_cases hlt : k < g.edges.length
          · have hki : (k : Int) < (g.edges.length : Int) := by omega
            rcases (HG.out.below (DD.out.bel.mono (Nat.le_refl _))).E with e | ⟨b, off, rfl, hc⟩
            · rw [e] at hlt; exact absurd hlt (Nat.not_lt_zero _)
            obtain ⟨k0, k1, k2, k3, x, c, k4, k5⟩ := hc k hlt
            have HAR := hiddenG k5
            have HEK := hiddenG (edge_ok (HS.out.edges k hlt)).1
            have TK := hiddenG (take_E hlt)
            generalize nthE g.edges k = E at *
            obtain ⟨ef, efp, et, etp, zs⟩ := E
            simp only at k0 k1 k2 k3 k4 HAR
            clear hc k5
            go_upto_region 13 with fail
            have bv := (Below.refl wr.heap.size wr).alloc (Nat.le_refl _) (.cells #[.int .i64 ef, .int .i64 efp, .int .i64 et, .int .i64 etp, .slice x zs.length c] 65)
            have DV := hiddenG (DD.out.below bv)
            have bx := blkA_new 65 wr #[.int .i64 ef, .int .i64 efp, .int .i64 et, .int .i64 etp, .slice x zs.length c]
            have bb0 := bx.cell (k := 0) rfl
            have bb1 := bx.cell (k := 1) rfl
            have bb2 := bx.cell (k := 2) rfl
            have bb3 := bx.cell (k := 3) rfl
            have bb4 := bx.cell (k := 4) rfl
            have kk : (wr.alloc (.cells #[.int .i64 ef, .int .i64 efp, .int .i64 et, .int .i64 etp, .slice x zs.length c] 65)).cell? ⟨K, 1, none⟩ = some (.slice va M.length vc) := DV.out.sb.cell rfl
            have gx0 : (wr.alloc (.cells #[.int .i64 ef, .int .i64 efp, .int .i64 et, .int .i64 etp, .slice x zs.length c] 65)).cell? ⟨w.heap.size, 0, none⟩ = some (.string (str g.name)) := DV.out.gb.cell rfl
            have gx1 : (wr.alloc (.cells #[.int .i64 ef, .int .i64 efp, .int .i64 et, .int .i64 etp, .slice x zs.length c] 65)).cell? ⟨w.heap.size, 1, none⟩ = some (.slice a1 g.actors.length c1) := DV.out.gb.cell rfl
            have gx2 : (wr.alloc (.cells #[.int .i64 ef, .int .i64 efp, .int .i64 et, .int .i64 etp, .slice x zs.length c] 65)).cell? ⟨w.heap.size, 2, none⟩ = some (.slice (some ⟨b, off, none⟩) g.edges.length c2) := DV.out.gb.cell rfl
            have gx3 : (wr.alloc (.cells #[.int .i64 ef, .int .i64 efp, .int .i64 et, .int .i64 etp, .slice x zs.length c] 65)).cell? ⟨w.heap.size, 3, none⟩ = some (.slice a3 g.ins.length c3) := DV.out.gb.cell rfl
            have gx4 : (wr.alloc (.cells #[.int .i64 ef, .int .i64 efp, .int .i64 et, .int .i64 etp, .slice x zs.length c] 65)).cell? ⟨w.heap.size, 4, none⟩ = some (.slice a4 g.outs.length c4) := DV.out.gb.cell rfl
            have CA : Hid (∀ U, Below (wr.alloc (.cells #[.int .i64 ef, .int .i64 efp, .int .i64 et, .int .i64 etp, .slice x zs.length c] 65)).heap.size (wr.alloc (.cells #[.int .i64 ef, .int .i64 efp, .int .i64 et, .int .i64 etp, .slice x zs.length c] 65)) U → Calls Tryz.prog 65 #[.agg #[.string (str g.name), .slice a1 g.actors.length c1, .slice (some ⟨b, off, none⟩) g.edges.length c2, .slice a3 g.ins.length c3, .slice a4 g.outs.length c4], .agg #[.int .i64 ef, .int .i64 efp, .int .i64 et, .int .i64 etp, .slice x zs.length c]] U (DrawnE (drawE g ⟨ef, efp, et, etp, zs⟩) U)) := fun U hb => drawEdge_any g _ _ _ _ _ _ _ _ ef efp et etp zs x c U (((HG.out.below DD.out.bel).A.at.below bv).below hb) (by have := HLM.out.1; omega) HEK.out.f0 HEK.out.f1 HEK.out.t0 HEK.out.t1 ((HAR.out.below bv).below hb)
            clear bx k0 k1 k2 k3 k4
            have BV := hiddenG bv
            clear bv
            generalize wr.alloc (.cells #[.int .i64 ef, .int .i64 efp, .int .i64 et, .int .i64 etp, .slice x zs.length c] 65) = V at *
            refine wp_region_said 6 (fun i u v => match i with
                | 0 => v = .pointer (some ⟨K, 1, none⟩)
                | 1 => v = .slice va M.length vc
                | 2 => v = .agg #[.string (str g.name), .slice a1 g.actors.length c1, .slice (some ⟨b, off, none⟩) g.edges.length c2, .slice a3 g.ins.length c3, .slice a4 g.outs.length c4]
                | 3 => v = .agg #[.int .i64 ef, .int .i64 efp, .int .i64 et, .int .i64 etp, .slice x zs.length c]
                | 4 => ItV V (drawE g ⟨ef, efp, et, etp, zs⟩) u v
                | 5 => ItC V (drawE g ⟨ef, efp, et, etp, zs⟩) u v
                | _ => True) (by kernel_rfl) (by kernel_rfl) (by kernel_rfl) (by kernel_rfl) ?_ ?_ ?_
            · intro i w v w' h hb
              match i, h with
              | 0, h => exact h
              | 1, h => exact h
              | 2, h => exact h
              | 3, h => exact h
              | 4, h => exact ItV.later h hb
              | 5, h => exact ItC.later h hb
              | _ + 6, _ => trivial
            · intro i o ρ w' hi ho hb hc hf hfr hdep
              have kS := cell_keep hb kk
              have b0 := cell_keep hb bb0
              have b1 := cell_keep hb bb1
              have b2 := cell_keep hb bb2
              have b3 := cell_keep hb bb3
              have b4 := cell_keep hb bb4
              have g0 := cell_keep hb gx0
              have g1 := cell_keep hb gx1
              have g2 := cell_keep hb gx2
              have g3 := cell_keep hb gx3
              have g4 := cell_keep hb gx4
              match i, hi with
              | 0, _ =>
                simp only [gTA, gCZ, gSI] at ho
                subst ho
                have ts : ρ (.tmp 5) = .pointer (some ⟨K, 0, none⟩) := hfr 5 (by kernel_rfl)
                simp [go_sem, ts]
                exact ⟨Below.refl _ _, rfl⟩
              | 1, _ =>
                simp only [gTA, gCZ, gCS, gSI] at ho
                subst ho
                have ts : ρ (.tmp 45) = .pointer (some ⟨K, 1, none⟩) := hdep 0 45 (by kernel_rfl) (by kernel_rfl)
                simp [go_sem, ts, kS]
                exact ⟨Below.refl _ _, rfl⟩
              | 2, _ =>
                simp only [gTA, gCZ, gCS, gSI] at ho
                subst ho
                have ts : ρ (.tmp 1) = .pointer (some ⟨w.heap.size, 0, none⟩) := hfr 1 (by kernel_rfl)
                simp [go_sem, ts, g0, g1, g2, g3, g4]
                exact ⟨Below.refl _ _, rfl⟩
              | 3, _ =>
                simp only [gTA, gCZ, gCS, gSI] at ho
                subst ho
                have ts : ρ (.tmp 9) = .pointer (some ⟨wr.heap.size, 0, none⟩) := hfr 9 (by kernel_rfl)
                simp [go_sem, ts, b0, b1, b2, b3, b4]
                exact ⟨Below.refl _ _, rfl⟩
              | 4, _ =>
                simp only [gTA, gCZ, gCS, gSI] at ho
                subst ho
                have t0 : ρ (.tmp 47) = .agg #[.string (str g.name), .slice a1 g.actors.length c1, .slice (some ⟨b, off, none⟩) g.edges.length c2, .slice a3 g.ins.length c3, .slice a4 g.outs.length c4] := hdep 2 47 (by kernel_rfl) (by kernel_rfl)
                have t1 : ρ (.tmp 48) = .agg #[.int .i64 ef, .int .i64 efp, .int .i64 et, .int .i64 etp, .slice x zs.length c] := hdep 3 48 (by kernel_rfl) (by kernel_rfl)
                simp [go_sem, t0, t1, hf]
                exact ⟨rfl, (CA.out w' hb).mono fun e w'' hh => itV_of hh hb.size⟩
              | 5, _ =>
                simp only [gTA, gCZ, gCS, gSI] at ho
                subst ho
                obtain ⟨qa, qc, e3, h3⟩ : ItV V (drawE g ⟨ef, efp, et, etp, zs⟩) w' (ρ (.tmp 49)) := hdep 4 49 (by kernel_rfl) (by kernel_rfl)
                simp [go_sem, e3, itC]
                exact ⟨(Below.refl _ _).alloc (Nat.le_refl _) _, itC_new h3 _⟩
            · intro V9 w9 q9 hS
              have e0 : V9 0 = .pointer (some ⟨K, 1, none⟩) := hS 0 (by decide)
              have e1 : V9 1 = .slice va M.length vc := hS 1 (by decide)
              have e2 : V9 2 = .agg #[.string (str g.name), .slice a1 g.actors.length c1, .slice (some ⟨b, off, none⟩) g.edges.length c2, .slice a3 g.ins.length c3, .slice a4 g.outs.length c4] := hS 2 (by decide)
              have e3 : V9 3 = .agg #[.int .i64 ef, .int .i64 efp, .int .i64 et, .int .i64 etp, .slice x zs.length c] := hS 3 (by decide)
              obtain ⟨qa4, qc4, e4, -⟩ : ItV V (drawE g ⟨ef, efp, et, etp, zs⟩) w9 (V9 4) := hS 4 (by decide)
              obtain ⟨hx, qa, qc, e5, Q1, Q2⟩ : ItC V (drawE g ⟨ef, efp, et, etp, zs⟩) w9 (V9 5) := hS 5 (by decide)
              simp only [List.drop_succ_cons, List.drop_zero, List.take_succ_cons, List.take_zero, puts, e0, e1, e2, e3, e4, e5]
              clear hS e0 e1 e2 e3 e4 e5 V9
              simp only [Act.put, List.setIfInBounds_toArray, List.set_cons_zero, List.set_cons_succ]
              have D9 := hiddenG DV.out
              have B9 := hiddenG q9
              have C9 := hiddenG Q1
              have N9 := hiddenG Q2
              clear Q1 Q2 q9 DV CA bb0 bb1 bb2 bb3 bb4 gx0 gx1 gx2 gx3 gx4 kk
              go_wp2_with (at_builtin; refine wpList_append_told _ rfl (.tmp 46) (.tmp 50) 50 rfl (K + 1) 103 i0 (.agg #[.int .u8 0, .string ⟨#[]⟩, .string ⟨#[]⟩, .slice none 0 0, .string ⟨#[]⟩, .int .i64 0, .int .i64 0, .string ⟨#[]⟩, .int .i64 0, .int .i64 0, .int .i64 0]) 11 136 Tryz.underlying50 HJ.out HJ0.out HJ1.out HJ2.out rfl (by decide) (.slice va M.length vc) M.length (M.flatMap itP) rfl (owns_below D9.out.its.row B9.out) ⟨hx, 0, none⟩ 1 1 (by decide) (itP ((drawE g ⟨ef, efp, et, etp, zs⟩), .slice qa (drawE g ⟨ef, efp, et, etp, zs⟩).nums.length qc)) rfl rfl (fun j u hu => by rw [add_zero5]; exact C9.out j u hu) (itP_one _ _ _ _) (by unfold maxLen; omega) (by omega) (Nat.le_trans D9.out.big B9.out.size) ?_; intro v' w4 ho ht; obtain ⟨D10, bk⟩ := D9.out.put B9.out (x := (drawE g ⟨ef, efp, et, etp, zs⟩)) (q := .slice qa (drawE g ⟨ef, efp, et, etp, zs⟩).nums.length qc) N9.out ho ht; obtain ⟨va4, vc4, rfl⟩ := told_shape ht; have E10 := hiddenG D10; have s1 : w4.cell? ⟨K, 1, none⟩ = some (.slice va M.length vc) := bk.cell rfl; have f1 := bk.frozen 1; clear ho ht D10 bk)
              go_roundg (g.edges.length - (k + 1))
              case measure => omega
              case rel => exact ⟨k + 1, va4, vc4, M ++ [((drawE g ⟨ef, efp, et, etp, zs⟩), .slice qa (drawE g ⟨ef, efp, et, etp, zs⟩).nums.length qc)], by omega, rfl, by go_num, by rw [List.map_append, MM.out, TK.out, List.map_append, List.append_assoc]; rfl, by rw [List.length_append]; exact E10.out⟩
          · have ek : k = g.edges.length := by omega
            have MM1 : Hid (M.map Prod.fst = g.actors.map drawA ++ g.edges.map (drawE g)) := by
              have e := MM.out
              rw [ek, List.take_length] at e
              exact e
            have hki : ¬ (k : Int) < (g.edges.length : Int) := by omega
            clear MM ek
            have y3 : wr.cell? ⟨w.heap.size, 3, none⟩ = some (.slice a3 g.ins.length c3) := DD.out.gb.cell rfl
            go_wp2
            go_loopg [57] g.ins.length (fun gk v wr => ∃ (k : Nat) (va : Option Addr) (vc : Nat) (M : List (Itm × Value)), k ≤ g.ins.length ∧ gk = g.ins.length - k ∧ v = .int .i64 (k : Int) ∧ M.map Prod.fst = g.actors.map drawA ++ g.edges.map (drawE g) ++ (g.ins.take k).map (drawI g) ∧ DrS w K g a1 a2 a3 a4 c1 c2 c3 c4 (.slice va M.length vc) M wr)
            case atStart => exact ⟨0, va, vc, M, Nat.zero_le _, rfl, rfl, by rw [List.take_zero, List.map_nil, List.append_nil]; exact MM1.out, DD.out⟩
            case round =>
              obtain ⟨k, va, vc, M, hk, rfl, rfl, hM, hD⟩ := hrel
              have DD := hiddenG hD
              have MM := hiddenG hM
              clear hM hD
              have LM : M.length ≤ 160 := by
                have q := congrArg List.length MM.out
                have := HLM.out
                simp only [List.length_map, List.length_append, List.length_take] at q
                omega
              by_cases hlt : k < g.ins.length
              · have hki : (k : Int) < (g.ins.length : Int) := by omega
                rcases (HG.out.below (DD.out.bel.mono (Nat.le_refl _))).I with e | ⟨b, off, rfl, hc⟩
                · rw [e] at hlt; exact absurd hlt (Nat.not_lt_zero _)
                obtain ⟨k0, k1, k2⟩ := hc k hlt
                have HEK := hiddenG (in_ok (HS.out.ins k hlt)).2.2.1
                have TK := hiddenG (take_P hlt)
                generalize nthP g.ins k = E at *
                obtain ⟨nm, ac, po⟩ := E
                simp only at k0 k1 k2 HEK
                clear hc
                go_upto_region 18 with fail
                have bv := (Below.refl wr.heap.size wr).alloc (Nat.le_refl _) (.cells #[.string (str nm), .int .i64 ac, .int .i64 po] 81)
                have DV := hiddenG (DD.out.below bv)
                have bx := blkA_new 81 wr #[.string (str nm), .int .i64 ac, .int .i64 po]
                have bb0 := bx.cell (k := 0) rfl
                have bb1 := bx.cell (k := 1) rfl
                have bb2 := bx.cell (k := 2) rfl
                have kk : (wr.alloc (.cells #[.string (str nm), .int .i64 ac, .int .i64 po] 81)).cell? ⟨K, 1, none⟩ = some (.slice va M.length vc) := DV.out.sb.cell rfl
                have gx0 : (wr.alloc (.cells #[.string (str nm), .int .i64 ac, .int .i64 po] 81)).cell? ⟨w.heap.size, 0, none⟩ = some (.string (str g.name)) := DV.out.gb.cell rfl
                have gx1 : (wr.alloc (.cells #[.string (str nm), .int .i64 ac, .int .i64 po] 81)).cell? ⟨w.heap.size, 1, none⟩ = some (.slice a1 g.actors.length c1) := DV.out.gb.cell rfl
                have gx2 : (wr.alloc (.cells #[.string (str nm), .int .i64 ac, .int .i64 po] 81)).cell? ⟨w.heap.size, 2, none⟩ = some (.slice a2 g.edges.length c2) := DV.out.gb.cell rfl
                have gx3 : (wr.alloc (.cells #[.string (str nm), .int .i64 ac, .int .i64 po] 81)).cell? ⟨w.heap.size, 3, none⟩ = some (.slice (some ⟨b, off, none⟩) g.ins.length c3) := DV.out.gb.cell rfl
                have gx4 : (wr.alloc (.cells #[.string (str nm), .int .i64 ac, .int .i64 po] 81)).cell? ⟨w.heap.size, 4, none⟩ = some (.slice a4 g.outs.length c4) := DV.out.gb.cell rfl
                have CA : Hid (∀ U, Below (wr.alloc (.cells #[.string (str nm), .int .i64 ac, .int .i64 po] 81)).heap.size (wr.alloc (.cells #[.string (str nm), .int .i64 ac, .int .i64 po] 81)) U → Calls Tryz.prog 66 #[.agg #[.string (str g.name), .slice a1 g.actors.length c1, .slice a2 g.edges.length c2, .slice (some ⟨b, off, none⟩) g.ins.length c3, .slice a4 g.outs.length c4], .int .i64 ac, .int .i64 po] U fun e w' => e = .returned (.agg #[.string (str (nthA g.actors ac.toNat).name), .int .i64 po, .int .i64 0]) ∧ Below U.heap.size U w') := fun U hb => drawPlace_any g _ _ _ _ _ _ _ _ ac po U (((HG.out.below DD.out.bel).A.at.below bv).below hb) HEK.out.1 HEK.out.2.1 (by have := HLM.out.1; omega)
                clear bx k0 k1 k2
                have BV := hiddenG bv
                clear bv
                generalize wr.alloc (.cells #[.string (str nm), .int .i64 ac, .int .i64 po] 81) = V at *
                refine wp_region_said 12 (fun i u v => match i with
                    | 0 => v = .pointer (some ⟨K, 1, none⟩)
                    | 1 => v = .slice va M.length vc
                    | 2 => v = .pointer (some ⟨wr.heap.size, 0, none⟩)
                    | 3 => v = .string (str nm)
                    | 4 => v = .agg #[.string (str g.name), .slice a1 g.actors.length c1, .slice a2 g.edges.length c2, .slice (some ⟨b, off, none⟩) g.ins.length c3, .slice a4 g.outs.length c4]
                    | 5 => v = .pointer (some ⟨wr.heap.size, 1, none⟩)
                    | 6 => v = .int .i64 ac
                    | 7 => v = .pointer (some ⟨wr.heap.size, 2, none⟩)
                    | 8 => v = .int .i64 po
                    | 9 => v = .agg #[.string (str (nthA g.actors ac.toNat).name), .int .i64 po, .int .i64 0]
                    | 10 => ItV V (drawI g ⟨nm, ac, po⟩) u v
                    | 11 => ItC V (drawI g ⟨nm, ac, po⟩) u v
                    | _ => True) (by kernel_rfl) (by kernel_rfl) (by kernel_rfl) (by kernel_rfl) ?_ ?_ ?_
                · intro i w v w' h hb
                  match i, h with
                  | 0, h => exact h
                  | 1, h => exact h
                  | 2, h => exact h
                  | 3, h => exact h
                  | 4, h => exact h
                  | 5, h => exact h
                  | 6, h => exact h
                  | 7, h => exact h
                  | 8, h => exact h
                  | 9, h => exact h
                  | 10, h => exact ItV.later h hb
                  | 11, h => exact ItC.later h hb
                  | _ + 12, _ => trivial
                · intro i o ρ w' hi ho hb hc hf hfr hdep
                  have kS := cell_keep hb kk
                  have b0 := cell_keep hb bb0
                  have b1 := cell_keep hb bb1
                  have b2 := cell_keep hb bb2
                  have g0 := cell_keep hb gx0
                  have g1 := cell_keep hb gx1
                  have g2 := cell_keep hb gx2
                  have g3 := cell_keep hb gx3
                  have g4 := cell_keep hb gx4
                  match i, hi with
                  | 0, _ =>
                    simp only [gTA, gCZ, gSI] at ho
                    subst ho
                    have ts : ρ (.tmp 5) = .pointer (some ⟨K, 0, none⟩) := hfr 5 (by kernel_rfl)
                    simp [go_sem, ts]
                    exact ⟨Below.refl _ _, rfl⟩
                  | 1, _ =>
                    simp only [gTA, gCZ, gCS, gSI] at ho
                    subst ho
                    have ts : ρ (.tmp 61) = .pointer (some ⟨K, 1, none⟩) := hdep 0 61 (by kernel_rfl) (by kernel_rfl)
                    simp [go_sem, ts, kS]
                    exact ⟨Below.refl _ _, rfl⟩
                  | 2, _ =>
                    simp only [gTA, gCZ, gCS, gSI] at ho
                    subst ho
                    have ts : ρ (.tmp 11) = .pointer (some ⟨wr.heap.size, 0, none⟩) := hfr 11 (by kernel_rfl)
                    simp [go_sem, ts]
                    exact ⟨Below.refl _ _, rfl⟩
                  | 3, _ =>
                    simp only [gTA, gCZ, gCS, gSI] at ho
                    subst ho
                    have ts : ρ (.tmp 63) = .pointer (some ⟨wr.heap.size, 0, none⟩) := hdep 2 63 (by kernel_rfl) (by kernel_rfl)
                    simp [go_sem, ts, b0]
                    exact ⟨Below.refl _ _, rfl⟩
                  | 4, _ =>
                    simp only [gTA, gCZ, gCS, gSI] at ho
                    subst ho
                    have ts : ρ (.tmp 1) = .pointer (some ⟨w.heap.size, 0, none⟩) := hfr 1 (by kernel_rfl)
                    simp [go_sem, ts, g0, g1, g2, g3, g4]
                    exact ⟨Below.refl _ _, rfl⟩
                  | 5, _ =>
                    simp only [gTA, gCZ, gCS, gSI] at ho
                    subst ho
                    have ts : ρ (.tmp 11) = .pointer (some ⟨wr.heap.size, 0, none⟩) := hfr 11 (by kernel_rfl)
                    simp [go_sem, ts]
                    exact ⟨Below.refl _ _, rfl⟩
                  | 6, _ =>
                    simp only [gTA, gCZ, gCS, gSI] at ho
                    subst ho
                    have ts : ρ (.tmp 66) = .pointer (some ⟨wr.heap.size, 1, none⟩) := hdep 5 66 (by kernel_rfl) (by kernel_rfl)
                    simp [go_sem, ts, b1]
                    exact ⟨Below.refl _ _, rfl⟩
                  | 7, _ =>
                    simp only [gTA, gCZ, gCS, gSI] at ho
                    subst ho
                    have ts : ρ (.tmp 11) = .pointer (some ⟨wr.heap.size, 0, none⟩) := hfr 11 (by kernel_rfl)
                    simp [go_sem, ts]
                    exact ⟨Below.refl _ _, rfl⟩
                  | 8, _ =>
                    simp only [gTA, gCZ, gCS, gSI] at ho
                    subst ho
                    have ts : ρ (.tmp 68) = .pointer (some ⟨wr.heap.size, 2, none⟩) := hdep 7 68 (by kernel_rfl) (by kernel_rfl)
                    simp [go_sem, ts, b2]
                    exact ⟨Below.refl _ _, rfl⟩
                  | 9, _ =>
                    simp only [gTA, gCZ, gCS, gSI] at ho
                    subst ho
                    have t0 : ρ (.tmp 65) = .agg #[.string (str g.name), .slice a1 g.actors.length c1, .slice a2 g.edges.length c2, .slice (some ⟨b, off, none⟩) g.ins.length c3, .slice a4 g.outs.length c4] := hdep 4 65 (by kernel_rfl) (by kernel_rfl)
                    have t1 : ρ (.tmp 67) = .int .i64 ac := hdep 6 67 (by kernel_rfl) (by kernel_rfl)
                    have t2 : ρ (.tmp 69) = .int .i64 po := hdep 8 69 (by kernel_rfl) (by kernel_rfl)
                    simp [go_sem, t0, t1, t2, hf]
                    exact ⟨rfl, (CA.out w' hb).mono fun e w'' hh => ⟨_, hh.1, hh.2, rfl⟩⟩
                  | 10, _ =>
                    simp only [gTA, gCZ, gCS, gSI] at ho
                    subst ho
                    have t0 : ρ (.tmp 64) = .string (str nm) := hdep 3 64 (by kernel_rfl) (by kernel_rfl)
                    have t1 : ρ (.tmp 70) = .agg #[.string (str (nthA g.actors ac.toNat).name), .int .i64 po, .int .i64 0] := hdep 9 70 (by kernel_rfl) (by kernel_rfl)
                    simp [go_sem, t0, t1, hc]
                    exact ⟨Below.refl _ _, none, 0, rfl, World.ownsRow_nil _ _ _ _⟩
                  | 11, _ =>
                    simp only [gTA, gCZ, gCS, gSI] at ho
                    subst ho
                    obtain ⟨qa, qc, e3, h3⟩ : ItV V (drawI g ⟨nm, ac, po⟩) w' (ρ (.tmp 71)) := hdep 10 71 (by kernel_rfl) (by kernel_rfl)
                    simp [go_sem, e3, itC]
                    exact ⟨(Below.refl _ _).alloc (Nat.le_refl _) _, itC_new h3 _⟩
                · intro V9 w9 q9 hS
                  have e0 : V9 0 = .pointer (some ⟨K, 1, none⟩) := hS 0 (by decide)
                  have e1 : V9 1 = .slice va M.length vc := hS 1 (by decide)
                  have e2 : V9 2 = .pointer (some ⟨wr.heap.size, 0, none⟩) := hS 2 (by decide)
                  have e3 : V9 3 = .string (str nm) := hS 3 (by decide)
                  have e4 : V9 4 = .agg #[.string (str g.name), .slice a1 g.actors.length c1, .slice a2 g.edges.length c2, .slice (some ⟨b, off, none⟩) g.ins.length c3, .slice a4 g.outs.length c4] := hS 4 (by decide)
                  have e5 : V9 5 = .pointer (some ⟨wr.heap.size, 1, none⟩) := hS 5 (by decide)
                  have e6 : V9 6 = .int .i64 ac := hS 6 (by decide)
                  have e7 : V9 7 = .pointer (some ⟨wr.heap.size, 2, none⟩) := hS 7 (by decide)
                  have e8 : V9 8 = .int .i64 po := hS 8 (by decide)
                  have e9 : V9 9 = .agg #[.string (str (nthA g.actors ac.toNat).name), .int .i64 po, .int .i64 0] := hS 9 (by decide)
                  obtain ⟨qa10, qc10, e10, -⟩ : ItV V (drawI g ⟨nm, ac, po⟩) w9 (V9 10) := hS 10 (by decide)
                  obtain ⟨hx, qa, qc, e11, Q1, Q2⟩ : ItC V (drawI g ⟨nm, ac, po⟩) w9 (V9 11) := hS 11 (by decide)
                  simp only [List.drop_succ_cons, List.drop_zero, List.take_succ_cons, List.take_zero, puts, e0, e1, e2, e3, e4, e5, e6, e7, e8, e9, e10, e11]
                  clear hS e0 e1 e2 e3 e4 e5 e6 e7 e8 e9 e10 e11 V9
                  simp only [Act.put, List.setIfInBounds_toArray, List.set_cons_zero, List.set_cons_succ]
                  have D9 := hiddenG DV.out
                  have B9 := hiddenG q9
                  have C9 := hiddenG Q1
                  have N9 := hiddenG Q2
                  clear Q1 Q2 q9 DV CA bb0 bb1 bb2 gx0 gx1 gx2 gx3 gx4 kk
                  go_wp2_with (at_builtin; refine wpList_append_told _ rfl (.tmp 62) (.tmp 72) 50 rfl (K + 1) 103 i0 (.agg #[.int .u8 0, .string ⟨#[]⟩, .string ⟨#[]⟩, .slice none 0 0, .string ⟨#[]⟩, .int .i64 0, .int .i64 0, .string ⟨#[]⟩, .int .i64 0, .int .i64 0, .int .i64 0]) 11 136 Tryz.underlying50 HJ.out HJ0.out HJ1.out HJ2.out rfl (by decide) (.slice va M.length vc) M.length (M.flatMap itP) rfl (owns_below D9.out.its.row B9.out) ⟨hx, 0, none⟩ 1 1 (by decide) (itP ((drawI g ⟨nm, ac, po⟩), .slice qa (drawI g ⟨nm, ac, po⟩).nums.length qc)) rfl rfl (fun j u hu => by rw [add_zero5]; exact C9.out j u hu) (itP_one _ _ _ _) (by unfold maxLen; omega) (by omega) (Nat.le_trans D9.out.big B9.out.size) ?_; intro v' w4 ho ht; obtain ⟨D10, bk⟩ := D9.out.put B9.out (x := (drawI g ⟨nm, ac, po⟩)) (q := .slice qa (drawI g ⟨nm, ac, po⟩).nums.length qc) N9.out ho ht; obtain ⟨va4, vc4, rfl⟩ := told_shape ht; have E10 := hiddenG D10; have s1 : w4.cell? ⟨K, 1, none⟩ = some (.slice va M.length vc) := bk.cell rfl; have f1 := bk.frozen 1; clear ho ht D10 bk)
                  go_roundg (g.ins.length - (k + 1))
                  case measure => omega
                  case rel => exact ⟨k + 1, va4, vc4, M ++ [((drawI g ⟨nm, ac, po⟩), .slice qa (drawI g ⟨nm, ac, po⟩).nums.length qc)], by omega, rfl, by go_num, by rw [List.map_append, MM.out, TK.out, List.map_append, List.append_assoc]; rfl, by rw [List.length_append]; exact E10.out⟩
              · have ek : k = g.ins.length := by omega
                have MM2 : Hid (M.map Prod.fst = g.actors.map drawA ++ g.edges.map (drawE g) ++ g.ins.map (drawI g)) := by
                  have e := MM.out
                  rw [ek, List.take_length] at e
                  exact e
                have hki : ¬ (k : Int) < (g.ins.length : Int) := by omega
                clear MM ek
                have y4 : wr.cell? ⟨w.heap.size, 4, none⟩ = some (.slice a4 g.outs.length c4) := DD.out.gb.cell rfl
                go_wp2
                go_loopg [79] g.outs.length (fun gk v wr => ∃ (k : Nat) (va : Option Addr) (vc : Nat) (M : List (Itm × Value)), k ≤ g.outs.length ∧ gk = g.outs.length - k ∧ v = .int .i64 (k : Int) ∧ M.map Prod.fst = g.actors.map drawA ++ g.edges.map (drawE g) ++ g.ins.map (drawI g) ++ (g.outs.take k).map (drawO g) ∧ DrS w K g a1 a2 a3 a4 c1 c2 c3 c4 (.slice va M.length vc) M wr)
                case atStart => exact ⟨0, va, vc, M, Nat.zero_le _, rfl, rfl, by rw [List.take_zero, List.map_nil, List.append_nil]; exact MM2.out, DD.out⟩
                case round =>
                  obtain ⟨k, va, vc, M, hk, rfl, rfl, hM, hD⟩ := hrel
                  have DD := hiddenG hD
                  have MM := hiddenG hM
                  clear hM hD
                  have LM : M.length ≤ 160 := by
                    have q := congrArg List.length MM.out
                    have := HLM.out
                    simp only [List.length_map, List.length_append, List.length_take] at q
                    omega
                  by_cases hlt : k < g.outs.length
                  · have hki : (k : Int) < (g.outs.length : Int) := by omega
                    rcases (HG.out.below (DD.out.bel.mono (Nat.le_refl _))).O with e | ⟨b, off, rfl, hc⟩
                    · rw [e] at hlt; exact absurd hlt (Nat.not_lt_zero _)
                    obtain ⟨k0, k1, k2⟩ := hc k hlt
                    have HEK := hiddenG (out_ok (HS.out.outs k hlt)).2.2.1
                    have TK := hiddenG (take_P hlt)
                    generalize nthP g.outs k = E at *
                    obtain ⟨nm, ac, po⟩ := E
                    simp only at k0 k1 k2 HEK
                    clear hc
                    go_upto_region 23 with fail
                    have bv := (Below.refl wr.heap.size wr).alloc (Nat.le_refl _) (.cells #[.string (str nm), .int .i64 ac, .int .i64 po] 81)
                    have DV := hiddenG (DD.out.below bv)
                    have bx := blkA_new 81 wr #[.string (str nm), .int .i64 ac, .int .i64 po]
                    have bb0 := bx.cell (k := 0) rfl
                    have bb1 := bx.cell (k := 1) rfl
                    have bb2 := bx.cell (k := 2) rfl
                    have kk : (wr.alloc (.cells #[.string (str nm), .int .i64 ac, .int .i64 po] 81)).cell? ⟨K, 1, none⟩ = some (.slice va M.length vc) := DV.out.sb.cell rfl
                    have gx0 : (wr.alloc (.cells #[.string (str nm), .int .i64 ac, .int .i64 po] 81)).cell? ⟨w.heap.size, 0, none⟩ = some (.string (str g.name)) := DV.out.gb.cell rfl
                    have gx1 : (wr.alloc (.cells #[.string (str nm), .int .i64 ac, .int .i64 po] 81)).cell? ⟨w.heap.size, 1, none⟩ = some (.slice a1 g.actors.length c1) := DV.out.gb.cell rfl
                    have gx2 : (wr.alloc (.cells #[.string (str nm), .int .i64 ac, .int .i64 po] 81)).cell? ⟨w.heap.size, 2, none⟩ = some (.slice a2 g.edges.length c2) := DV.out.gb.cell rfl
                    have gx3 : (wr.alloc (.cells #[.string (str nm), .int .i64 ac, .int .i64 po] 81)).cell? ⟨w.heap.size, 3, none⟩ = some (.slice a3 g.ins.length c3) := DV.out.gb.cell rfl
                    have gx4 : (wr.alloc (.cells #[.string (str nm), .int .i64 ac, .int .i64 po] 81)).cell? ⟨w.heap.size, 4, none⟩ = some (.slice (some ⟨b, off, none⟩) g.outs.length c4) := DV.out.gb.cell rfl
                    have CA : Hid (∀ U, Below (wr.alloc (.cells #[.string (str nm), .int .i64 ac, .int .i64 po] 81)).heap.size (wr.alloc (.cells #[.string (str nm), .int .i64 ac, .int .i64 po] 81)) U → Calls Tryz.prog 66 #[.agg #[.string (str g.name), .slice a1 g.actors.length c1, .slice a2 g.edges.length c2, .slice a3 g.ins.length c3, .slice (some ⟨b, off, none⟩) g.outs.length c4], .int .i64 ac, .int .i64 po] U fun e w' => e = .returned (.agg #[.string (str (nthA g.actors ac.toNat).name), .int .i64 po, .int .i64 0]) ∧ Below U.heap.size U w') := fun U hb => drawPlace_any g _ _ _ _ _ _ _ _ ac po U (((HG.out.below DD.out.bel).A.at.below bv).below hb) HEK.out.1 HEK.out.2.1 (by have := HLM.out.1; omega)
                    clear bx k0 k1 k2
                    have BV := hiddenG bv
                    clear bv
                    generalize wr.alloc (.cells #[.string (str nm), .int .i64 ac, .int .i64 po] 81) = V at *
                    refine wp_region_said 12 (fun i u v => match i with
                        | 0 => v = .pointer (some ⟨K, 1, none⟩)
                        | 1 => v = .slice va M.length vc
                        | 2 => v = .pointer (some ⟨wr.heap.size, 0, none⟩)
                        | 3 => v = .string (str nm)
                        | 4 => v = .agg #[.string (str g.name), .slice a1 g.actors.length c1, .slice a2 g.edges.length c2, .slice a3 g.ins.length c3, .slice (some ⟨b, off, none⟩) g.outs.length c4]
                        | 5 => v = .pointer (some ⟨wr.heap.size, 1, none⟩)
                        | 6 => v = .int .i64 ac
                        | 7 => v = .pointer (some ⟨wr.heap.size, 2, none⟩)
                        | 8 => v = .int .i64 po
                        | 9 => v = .agg #[.string (str (nthA g.actors ac.toNat).name), .int .i64 po, .int .i64 0]
                        | 10 => ItV V (drawO g ⟨nm, ac, po⟩) u v
                        | 11 => ItC V (drawO g ⟨nm, ac, po⟩) u v
                        | _ => True) (by kernel_rfl) (by kernel_rfl) (by kernel_rfl) (by kernel_rfl) ?_ ?_ ?_
                    · intro i w v w' h hb
                      match i, h with
                      | 0, h => exact h
                      | 1, h => exact h
                      | 2, h => exact h
                      | 3, h => exact h
                      | 4, h => exact h
                      | 5, h => exact h
                      | 6, h => exact h
                      | 7, h => exact h
                      | 8, h => exact h
                      | 9, h => exact h
                      | 10, h => exact ItV.later h hb
                      | 11, h => exact ItC.later h hb
                      | _ + 12, _ => trivial
                    · intro i o ρ w' hi ho hb hc hf hfr hdep
                      have kS := cell_keep hb kk
                      have b0 := cell_keep hb bb0
                      have b1 := cell_keep hb bb1
                      have b2 := cell_keep hb bb2
                      have g0 := cell_keep hb gx0
                      have g1 := cell_keep hb gx1
                      have g2 := cell_keep hb gx2
                      have g3 := cell_keep hb gx3
                      have g4 := cell_keep hb gx4
                      match i, hi with
                      | 0, _ =>
                        simp only [gTA, gCZ, gSI] at ho
                        subst ho
                        have ts : ρ (.tmp 5) = .pointer (some ⟨K, 0, none⟩) := hfr 5 (by kernel_rfl)
                        simp [go_sem, ts]
                        exact ⟨Below.refl _ _, rfl⟩
                      | 1, _ =>
                        simp only [gTA, gCZ, gCS, gSI] at ho
                        subst ho
                        have ts : ρ (.tmp 83) = .pointer (some ⟨K, 1, none⟩) := hdep 0 83 (by kernel_rfl) (by kernel_rfl)
                        simp [go_sem, ts, kS]
                        exact ⟨Below.refl _ _, rfl⟩
                      | 2, _ =>
                        simp only [gTA, gCZ, gCS, gSI] at ho
                        subst ho
                        have ts : ρ (.tmp 13) = .pointer (some ⟨wr.heap.size, 0, none⟩) := hfr 13 (by kernel_rfl)
                        simp [go_sem, ts]
                        exact ⟨Below.refl _ _, rfl⟩
                      | 3, _ =>
                        simp only [gTA, gCZ, gCS, gSI] at ho
                        subst ho
                        have ts : ρ (.tmp 85) = .pointer (some ⟨wr.heap.size, 0, none⟩) := hdep 2 85 (by kernel_rfl) (by kernel_rfl)
                        simp [go_sem, ts, b0]
                        exact ⟨Below.refl _ _, rfl⟩
                      | 4, _ =>
                        simp only [gTA, gCZ, gCS, gSI] at ho
                        subst ho
                        have ts : ρ (.tmp 1) = .pointer (some ⟨w.heap.size, 0, none⟩) := hfr 1 (by kernel_rfl)
                        simp [go_sem, ts, g0, g1, g2, g3, g4]
                        exact ⟨Below.refl _ _, rfl⟩
                      | 5, _ =>
                        simp only [gTA, gCZ, gCS, gSI] at ho
                        subst ho
                        have ts : ρ (.tmp 13) = .pointer (some ⟨wr.heap.size, 0, none⟩) := hfr 13 (by kernel_rfl)
                        simp [go_sem, ts]
                        exact ⟨Below.refl _ _, rfl⟩
                      | 6, _ =>
                        simp only [gTA, gCZ, gCS, gSI] at ho
                        subst ho
                        have ts : ρ (.tmp 88) = .pointer (some ⟨wr.heap.size, 1, none⟩) := hdep 5 88 (by kernel_rfl) (by kernel_rfl)
                        simp [go_sem, ts, b1]
                        exact ⟨Below.refl _ _, rfl⟩
                      | 7, _ =>
                        simp only [gTA, gCZ, gCS, gSI] at ho
                        subst ho
                        have ts : ρ (.tmp 13) = .pointer (some ⟨wr.heap.size, 0, none⟩) := hfr 13 (by kernel_rfl)
                        simp [go_sem, ts]
                        exact ⟨Below.refl _ _, rfl⟩
                      | 8, _ =>
                        simp only [gTA, gCZ, gCS, gSI] at ho
                        subst ho
                        have ts : ρ (.tmp 90) = .pointer (some ⟨wr.heap.size, 2, none⟩) := hdep 7 90 (by kernel_rfl) (by kernel_rfl)
                        simp [go_sem, ts, b2]
                        exact ⟨Below.refl _ _, rfl⟩
                      | 9, _ =>
                        simp only [gTA, gCZ, gCS, gSI] at ho
                        subst ho
                        have t0 : ρ (.tmp 87) = .agg #[.string (str g.name), .slice a1 g.actors.length c1, .slice a2 g.edges.length c2, .slice a3 g.ins.length c3, .slice (some ⟨b, off, none⟩) g.outs.length c4] := hdep 4 87 (by kernel_rfl) (by kernel_rfl)
                        have t1 : ρ (.tmp 89) = .int .i64 ac := hdep 6 89 (by kernel_rfl) (by kernel_rfl)
                        have t2 : ρ (.tmp 91) = .int .i64 po := hdep 8 91 (by kernel_rfl) (by kernel_rfl)
                        simp [go_sem, t0, t1, t2, hf]
                        exact ⟨rfl, (CA.out w' hb).mono fun e w'' hh => ⟨_, hh.1, hh.2, rfl⟩⟩
                      | 10, _ =>
                        simp only [gTA, gCZ, gCS, gSI] at ho
                        subst ho
                        have t0 : ρ (.tmp 86) = .string (str nm) := hdep 3 86 (by kernel_rfl) (by kernel_rfl)
                        have t1 : ρ (.tmp 92) = .agg #[.string (str (nthA g.actors ac.toNat).name), .int .i64 po, .int .i64 0] := hdep 9 92 (by kernel_rfl) (by kernel_rfl)
                        simp [go_sem, t0, t1, hc]
                        exact ⟨Below.refl _ _, none, 0, rfl, World.ownsRow_nil _ _ _ _⟩
                      | 11, _ =>
                        simp only [gTA, gCZ, gCS, gSI] at ho
                        subst ho
                        obtain ⟨qa, qc, e3, h3⟩ : ItV V (drawO g ⟨nm, ac, po⟩) w' (ρ (.tmp 93)) := hdep 10 93 (by kernel_rfl) (by kernel_rfl)
                        simp [go_sem, e3, itC]
                        exact ⟨(Below.refl _ _).alloc (Nat.le_refl _) _, itC_new h3 _⟩
                    · intro V9 w9 q9 hS
                      have e0 : V9 0 = .pointer (some ⟨K, 1, none⟩) := hS 0 (by decide)
                      have e1 : V9 1 = .slice va M.length vc := hS 1 (by decide)
                      have e2 : V9 2 = .pointer (some ⟨wr.heap.size, 0, none⟩) := hS 2 (by decide)
                      have e3 : V9 3 = .string (str nm) := hS 3 (by decide)
                      have e4 : V9 4 = .agg #[.string (str g.name), .slice a1 g.actors.length c1, .slice a2 g.edges.length c2, .slice a3 g.ins.length c3, .slice (some ⟨b, off, none⟩) g.outs.length c4] := hS 4 (by decide)
                      have e5 : V9 5 = .pointer (some ⟨wr.heap.size, 1, none⟩) := hS 5 (by decide)
                      have e6 : V9 6 = .int .i64 ac := hS 6 (by decide)
                      have e7 : V9 7 = .pointer (some ⟨wr.heap.size, 2, none⟩) := hS 7 (by decide)
                      have e8 : V9 8 = .int .i64 po := hS 8 (by decide)
                      have e9 : V9 9 = .agg #[.string (str (nthA g.actors ac.toNat).name), .int .i64 po, .int .i64 0] := hS 9 (by decide)
                      obtain ⟨qa10, qc10, e10, -⟩ : ItV V (drawO g ⟨nm, ac, po⟩) w9 (V9 10) := hS 10 (by decide)
                      obtain ⟨hx, qa, qc, e11, Q1, Q2⟩ : ItC V (drawO g ⟨nm, ac, po⟩) w9 (V9 11) := hS 11 (by decide)
                      simp only [List.drop_succ_cons, List.drop_zero, List.take_succ_cons, List.take_zero, puts, e0, e1, e2, e3, e4, e5, e6, e7, e8, e9, e10, e11]
                      clear hS e0 e1 e2 e3 e4 e5 e6 e7 e8 e9 e10 e11 V9
                      simp only [Act.put, List.setIfInBounds_toArray, List.set_cons_zero, List.set_cons_succ]
                      have D9 := hiddenG DV.out
                      have B9 := hiddenG q9
                      have C9 := hiddenG Q1
                      have N9 := hiddenG Q2
                      clear Q1 Q2 q9 DV CA bb0 bb1 bb2 gx0 gx1 gx2 gx3 gx4 kk
                      go_wp2_with (at_builtin; refine wpList_append_told _ rfl (.tmp 84) (.tmp 94) 50 rfl (K + 1) 103 i0 (.agg #[.int .u8 0, .string ⟨#[]⟩, .string ⟨#[]⟩, .slice none 0 0, .string ⟨#[]⟩, .int .i64 0, .int .i64 0, .string ⟨#[]⟩, .int .i64 0, .int .i64 0, .int .i64 0]) 11 136 Tryz.underlying50 HJ.out HJ0.out HJ1.out HJ2.out rfl (by decide) (.slice va M.length vc) M.length (M.flatMap itP) rfl (owns_below D9.out.its.row B9.out) ⟨hx, 0, none⟩ 1 1 (by decide) (itP ((drawO g ⟨nm, ac, po⟩), .slice qa (drawO g ⟨nm, ac, po⟩).nums.length qc)) rfl rfl (fun j u hu => by rw [add_zero5]; exact C9.out j u hu) (itP_one _ _ _ _) (by unfold maxLen; omega) (by omega) (Nat.le_trans D9.out.big B9.out.size) ?_; intro v' w4 ho ht; obtain ⟨D10, bk⟩ := D9.out.put B9.out (x := (drawO g ⟨nm, ac, po⟩)) (q := .slice qa (drawO g ⟨nm, ac, po⟩).nums.length qc) N9.out ho ht; obtain ⟨va4, vc4, rfl⟩ := told_shape ht; have E10 := hiddenG D10; have s1 : w4.cell? ⟨K, 1, none⟩ = some (.slice va M.length vc) := bk.cell rfl; have f1 := bk.frozen 1; clear ho ht D10 bk)
                      go_roundg (g.outs.length - (k + 1))
                      case measure => omega
                      case rel => exact ⟨k + 1, va4, vc4, M ++ [((drawO g ⟨nm, ac, po⟩), .slice qa (drawO g ⟨nm, ac, po⟩).nums.length qc)], by omega, rfl, by go_num, by rw [List.map_append, MM.out, TK.out, List.map_append, List.append_assoc]; rfl, by rw [List.length_append]; exact E10.out⟩
                  · have ek : k = g.outs.length := by omega
                    have MM3 : Hid (M.map Prod.fst = g.actors.map drawA ++ g.edges.map (drawE g) ++ g.ins.map (drawI g) ++ g.outs.map (drawO g)) := by
                      have e := MM.out
                      rw [ek, List.take_length] at e
                      exact e
                    have hki : ¬ (k : Int) < (g.outs.length : Int) := by omega
                    clear MM ek
                    have s0 : wr.cell? ⟨K, 0, none⟩ = some (.string (str g.name)) := DD.out.sb.cell rfl
                    have s1 : wr.cell? ⟨K, 1, none⟩ = some (.slice va M.length vc) := DD.out.sb.cell rfl
                    go_wp2_with (refine wpList_storeW _ rfl 52 (.tmp 2) (.tmp 98) rfl rfl (w.heap.size + 1) 52 _ _ rfl rfl DD.out.rb sizS rfl rfl ?_; intro w8 hN hU; have N8 := hiddenG hN; have U8 := hiddenG hU; clear hN hU)
                    have r0 : w8.cell? ⟨w.heap.size + 1, 0, none⟩ = some (.string (str g.name)) := N8.out.cell rfl
                    have r1 : w8.cell? ⟨w.heap.size + 1, 1, none⟩ = some (.slice va M.length vc) := N8.out.cell rfl
                    refine bodyPost_ret (v := .tuple #[.agg #[.string (str g.name), .slice va M.length vc], .int .i64 0]) (by simp [results, Tryz.results38, go_sem, r0, r1]) rfl ?_
                    refine H1.out _ _ ⟨va, vc, M, rfl, by rw [MM3.out]; unfold drawS; simp only [List.append_assoc], ?_, DD.out.bel.trans (U8.out.below (Nat.le_succ _) DD.out.bel.size)⟩
                    exact (its_but DD.out.its U8.out DD.out.hk).mono (Nat.le_of_lt (Nat.lt_trans (Nat.lt_succ_self _) (Nat.lt_trans DD.out.hk (Nat.lt_succ_self _))))
  · have H1 : Hid (∀ e w', (e = .returned (.tuple #[.agg #[.string ⟨#[]⟩, .slice none 0 0], .int .i64 (firstF g).code]) ∧ Below w.heap.size w w') → DrawEnd g w e w') := fun e w' q => by
      unfold DrawEnd
      rw [if_neg h0]
      exact q
    generalize (firstF g).code = cd at *
    have q1 : (cd != 0) = true := by simpa using h0
    clear ba gg nr h HE
    go_enter Tryz.func38, Tryz.ntmps38
    go_upto_region 1 with fail
    generalize (w.alloc (.cells #[.string (str g.name), .slice a1 g.actors.length c1, .slice a2 g.edges.length c2, .slice a3 g.ins.length c3, .slice a4 g.outs.length c4] 26)).alloc (.cells #[.string ⟨#[]⟩, .slice none 0 0] 52) = W0 at *
    go_wp2_with (first
      | (refine wpList_storeW _ rfl 52 (.tmp 2) (.tmp 18) rfl rfl (w.heap.size + 1) 52 _ _ rfl rfl (NR.out.below B1.out) sizS rfl rfl ?_; intro w8 hN hU; have N8 := hiddenG hN; have U8 := hiddenG hU; clear hN hU)
      | (go_at_call 21; (with_reducible refine CK.out.mono ?_); rintro e w1 ⟨rfl, b1⟩; have B1 := hiddenG b1; clear b1 y0 y1 y2 y3 y4))
    have r0 : w8.cell? ⟨w.heap.size + 1, 0, none⟩ = some (.string ⟨#[]⟩) := N8.out.cell rfl
    have r1 : w8.cell? ⟨w.heap.size + 1, 1, none⟩ = some (.slice none 0 0) := N8.out.cell rfl
    refine bodyPost_ret (v := .tuple #[.agg #[.string ⟨#[]⟩, .slice none 0 0], .int .i64 cd]) (by simp [results, Tryz.results38, go_sem, r0, r1]) rfl ?_
    have b2 := BA.out.trans (B1.out.mono BA.out.size)
    exact H1.out _ _ ⟨rfl, b2.trans (U8.out.below (Nat.le_succ _) b2.size)⟩
/-- The last number that a name has in a row of names; -1: none. -/
def numG : List (List UInt8) → Nat → Int → List UInt8 → Int
  | [], _, d, _ => d
  | n :: r, i, d, x => numG r (i + 1) (if n = x then (i : Int) else d) x
def numL (ns : List (List UInt8)) (x : List UInt8) : Int := numG ns 0 (-1) x
theorem numG_app (s x : List UInt8) : ∀ (ns : List (List UInt8)) (i : Nat) (d : Int), numG (ns ++ [s]) i d x = if s = x then ((i + ns.length : Nat) : Int) else numG ns i d x
  | [], i, d => rfl
  | n :: r, i, d => by
    show numG (r ++ [s]) (i + 1) (if n = x then (i : Int) else d) x = _
    rw [numG_app s x r (i + 1)]
    have e : i + 1 + r.length = i + (n :: r).length := by simp; omega
    rw [e]
    rfl
theorem numL_app (ns : List (List UInt8)) (s x : List UInt8) : numL (ns ++ [s]) x = if s = x then (ns.length : Int) else numL ns x := by
  unfold numL
  rw [numG_app, Nat.zero_add]
theorem numG_none {x : List UInt8} : ∀ (ns : List (List UInt8)) (i : Nat) (d : Int), ¬ x ∈ ns → numG ns i d x = d
  | [], _, _, _ => rfl
  | n :: r, i, d, h => by
    show numG r (i + 1) (if n = x then (i : Int) else d) x = d
    rw [if_neg (fun e => h (by rw [e]; exact List.mem_cons_self)), numG_none r (i + 1) d (fun e => h (List.mem_cons_of_mem _ e))]
theorem numL_none {ns : List (List UInt8)} {x : List UInt8} (h : ¬ x ∈ ns) : numL ns x = -1 := numG_none ns 0 (-1) h
def kindF (k : Int) (L : List Itm) : List Itm := L.filter (fun x => decide (x.kind = k))
def actN (L : List Itm) : List (List UInt8) := (kindF 1 L).map Itm.name
def luA (x : Itm) : GA := ⟨x.name, (tagS x.tag).1, x.nums⟩
def luE (ns : List (List UInt8)) (x : Itm) : GE := ⟨numL ns x.frm.name, x.frm.port, numL ns x.tgt.name, x.tgt.port, x.nums⟩
def luI (ns : List (List UInt8)) (x : Itm) : GP := ⟨x.name, numL ns x.tgt.name, x.tgt.port⟩
def luO (ns : List (List UInt8)) (x : Itm) : GP := ⟨x.name, numL ns x.frm.name, x.frm.port⟩
/-- The graph of some items, names looked up among ns. -/
def lookG (nm : List UInt8) (ns : List (List UInt8)) (L : List Itm) : GG := ⟨nm, (kindF 1 L).map luA, (kindF 2 L).map (luE ns), (kindF 3 L).map (luI ns), (kindF 4 L).map (luO ns)⟩
def lookS (nm : List UInt8) (L : List Itm) : GG := lookG nm (actN L) L
theorem kindF_app (k : Int) (L : List Itm) (x : Itm) : kindF k (L ++ [x]) = if x.kind = k then kindF k L ++ [x] else kindF k L := by
  unfold kindF
  rw [List.filter_append]
  by_cases h : x.kind = k
  · simp [h]
  · simp [h]
theorem kindF_len (k : Int) (L : List Itm) : (kindF k L).length ≤ L.length := List.length_filter_le _ _
def lessK (x : Itm) : Bool := decide (x.kind < 1) || decide (4 < x.kind)
/-- The first item that is of no Kind, from a number on; -1: none. -/
def idxG : List Itm → Nat → Int
  | [], _ => -1
  | x :: r, i => if lessK x = true then (i : Int) else idxG r (i + 1)
def withinS (x : Itm) (e : Nat) : Int := if e = 1 then x.frm.place else if e = 2 then x.tgt.place else x.place
def placeG : List Itm → Nat → FL → Int
  | [], _, _ => 0
  | x :: r, n, f => if x.kind = (f.kind : Int) then (if n = f.number then withinS x f.stop else placeG r (n + 1) f) else placeG r n f
def gg0 : GG := ⟨[], [], [], [], []⟩
/-- What is built of a sketch: the graph, the error, its place. -/
def buildS (nm : List UInt8) (L : List Itm) : GG × Int × Int :=
  if 0 ≤ idxG L 0 then (gg0, 1, (L.getD (idxG L 0).toNat noItm).place)
  else if (firstF (lookS nm L)).code ≠ 0 then (gg0, (firstF (lookS nm L)).code, placeG L 0 (firstF (lookS nm L))) else (lookS nm L, 0, 0)
theorem idxG_range : ∀ (L : List Itm) (i : Nat), idxG L i = -1 ∨ ((i : Int) ≤ idxG L i ∧ idxG L i < ((i + L.length : Nat) : Int))
  | [], _ => .inl rfl
  | x :: r, i => by
    show (if lessK x = true then (i : Int) else idxG r (i + 1)) = -1 ∨ _
    by_cases h : lessK x = true
    · right
      have e : idxG (x :: r) i = (i : Int) := by show (if lessK x = true then (i : Int) else idxG r (i + 1)) = _; rw [if_pos h]
      rw [e]
      simp
      omega
    · have e : idxG (x :: r) i = idxG r (i + 1) := by show (if lessK x = true then (i : Int) else idxG r (i + 1)) = _; rw [if_neg h]
      rw [if_neg h, e]
      rcases idxG_range r (i + 1) with q | q
      · exact .inl q
      · right
        simp only [List.length_cons]
        omega
theorem drop_I {L : List (Itm × Value)} {i : Nat} (h : i < L.length) : (L.map Prod.fst).drop i = (nthI L i).1 :: (L.map Prod.fst).drop (i + 1) := by
  rw [List.drop_eq_getElem_cons (by rw [List.length_map]; exact h), List.getElem_map]
  unfold nthI
  rw [List.getD_eq_getElem?_getD, List.getElem?_eq_getElem h]
  rfl
/-- The first number that a name has in a row of names; -1: none. -/
def whG : List (List UInt8) → Nat → List UInt8 → Int
  | [], _, _ => -1
  | n :: r, i, x => if n = x then (i : Int) else whG r (i + 1) x
def whL (ns : List (List UInt8)) (x : List UInt8) : Int := whG ns 0 x
def whI : List Itm → Nat → List UInt8 → Int
  | [], _, _ => -1
  | x :: r, i, s => if x.kind = 1 then (if x.name = s then (i : Int) else whI r (i + 1) s) else whI r i s
theorem whI_eq (s : List UInt8) : ∀ (L : List Itm) (i : Nat), whI L i s = whG (actN L) i s
  | [], _ => rfl
  | x :: r, i => by
    show (if x.kind = 1 then (if x.name = s then (i : Int) else whI r (i + 1) s) else whI r i s) = _
    by_cases h : x.kind = 1
    · have e : actN (x :: r) = x.name :: actN r := by unfold actN kindF; rw [List.filter_cons_of_pos (by simp [h])]; rfl
      rw [if_pos h, e, whI_eq s r (i + 1)]
      rfl
    · have e : actN (x :: r) = actN r := by unfold actN kindF; rw [List.filter_cons_of_neg (by simp [h])]
      rw [if_neg h, e, whI_eq s r i]
theorem whG_none {x : List UInt8} : ∀ (ns : List (List UInt8)) (i : Nat), ¬ x ∈ ns → whG ns i x = -1
  | [], _, _ => rfl
  | n :: r, i, h => by
    show (if n = x then (i : Int) else whG r (i + 1) x) = -1
    rw [if_neg (fun e => h (by rw [e]; exact List.mem_cons_self)), whG_none r (i + 1) (fun e => h (List.mem_cons_of_mem _ e))]
theorem numG_wh {x : List UInt8} : ∀ (ns : List (List UInt8)) (i : Nat) (d : Int), ns.Nodup → numG ns i d x = if x ∈ ns then whG ns i x else d
  | [], _, _, _ => by rw [if_neg (by simp)]; rfl
  | n :: r, i, d, h => by
    rw [List.nodup_cons] at h
    have e : numG (n :: r) i d x = numG r (i + 1) (if n = x then (i : Int) else d) x := rfl
    rw [e, numG_wh r (i + 1) _ h.2]
    by_cases hx : n = x
    · subst hx
      rw [if_neg h.1, if_pos rfl, if_pos List.mem_cons_self]
      show _ = (if n = n then (i : Int) else _)
      rw [if_pos rfl]
    · have e2 : (x ∈ n :: r) ↔ x ∈ r := by rw [List.mem_cons]; exact ⟨fun q => q.resolve_left (fun w => hx w.symm), .inr⟩
      have e3 : whG (n :: r) i x = whG r (i + 1) x := by show (if n = x then (i : Int) else _) = _; rw [if_neg hx]
      by_cases hr : x ∈ r
      · rw [if_pos hr, if_pos (e2.2 hr), e3]
      · rw [if_neg hr, if_neg (fun q => hr (e2.1 q)), if_neg hx]
theorem whL_num {ns : List (List UInt8)} (h : ns.Nodup) (x : List UInt8) : whL ns x = numL ns x := by
  unfold whL numL
  rw [numG_wh ns 0 (-1) h]
  by_cases hx : x ∈ ns
  · rw [if_pos hx]
  · rw [if_neg hx, whG_none ns 0 hx]
def wE (ns : List (List UInt8)) (x : Itm) : GE := ⟨whL ns x.frm.name, x.frm.port, whL ns x.tgt.name, x.tgt.port, x.nums⟩
def wI (ns : List (List UInt8)) (x : Itm) : GP := ⟨x.name, whL ns x.tgt.name, x.tgt.port⟩
def wO (ns : List (List UInt8)) (x : Itm) : GP := ⟨x.name, whL ns x.frm.name, x.frm.port⟩
def ofN (ns : List (List UInt8)) (nm : List UInt8) (L : List Itm) : GG := ⟨nm, (kindF 1 L).map luA, ((kindF 2 L).map (wE ns)).take 97, ((kindF 3 L).map (wI ns)).take 17, ((kindF 4 L).map (wO ns)).take 17⟩
/-- The document's graph of a sketch. -/
def ofG (nm : List UInt8) (L : List Itm) : GG := ofN (actN L) nm L
theorem actors_nodup {g : GG} (h : (loopC g.actors.length 0 (fun i => (actorC g i, 0)) 1).code = 0) : (g.actors.map (fun a => a.name)).Nodup := by
  have h1 := (snocG_iff (L := fun i => nsG g i 0 0) (x := fun i => (nthA g.actors i).name) g.actors.length (fun i hi => nsG_A hi)).2 ⟨by simp [nsG], fun i hi => by
    have := actor_ok (loop_zero _ _ h i (Nat.zero_le _) (by omega))
    exact nsG_no.1 this.2.1⟩
  have e : nsG g g.actors.length 0 0 = g.actors.map (fun a => a.name) := by unfold nsG; simp
  rw [← e]; exact h1
theorem of_same {nm : List UInt8} {L : List Itm} (h : (headF (lookS nm L)).code = 0) (ha : (loopC (lookS nm L).actors.length 0 (fun i => (actorC (lookS nm L) i, 0)) 1).code = 0) : ofG nm L = lookS nm L := by
  have hh := head_ok h
  have hn : (actN L).Nodup := by
    have q := actors_nodup ha
    have e : (lookS nm L).actors.map (fun a => a.name) = actN L := by
      show ((kindF 1 L).map luA).map (fun a => a.name) = _
      rw [List.map_map]; rfl
    rw [← e]; exact q
  have e1 : wE (actN L) = luE (actN L) := by funext x; unfold wE luE; rw [whL_num hn, whL_num hn]
  have e2 : wI (actN L) = luI (actN L) := by funext x; unfold wI luI; rw [whL_num hn]
  have e3 : wO (actN L) = luO (actN L) := by funext x; unfold wO luO; rw [whL_num hn]
  have l1 : ((kindF 2 L).map (luE (actN L))).length ≤ 96 := hh.2.2.2.1
  have l2 : ((kindF 3 L).map (luI (actN L))).length ≤ 16 := hh.2.2.2.2.1
  have l3 : ((kindF 4 L).map (luO (actN L))).length ≤ 16 := hh.2.2.2.2.2
  unfold ofG ofN lookS lookG
  rw [e1, e2, e3, List.take_of_length_le (by omega), List.take_of_length_le (by omega), List.take_of_length_le (by omega)]
theorem of_head (nm : List UInt8) (L : List Itm) : headF (ofG nm L) = headF (lookS nm L) := by
  have e1 : (96 < (ofG nm L).edges.length) = (96 < (lookS nm L).edges.length) := by
    show (96 < (((kindF 2 L).map _).take 97).length) = (96 < ((kindF 2 L).map _).length)
    rw [List.length_take, List.length_map, List.length_map]; apply propext; omega
  have e2 : (16 < (ofG nm L).ins.length) = (16 < (lookS nm L).ins.length) := by
    show (16 < (((kindF 3 L).map _).take 17).length) = (16 < ((kindF 3 L).map _).length)
    rw [List.length_take, List.length_map, List.length_map]; apply propext; omega
  have e3 : (16 < (ofG nm L).outs.length) = (16 < (lookS nm L).outs.length) := by
    show (16 < (((kindF 4 L).map _).take 17).length) = (16 < ((kindF 4 L).map _).length)
    rw [List.length_take, List.length_map, List.length_map]; apply propext; omega
  unfold headF
  simp only [e1, e2, e3]
  rfl
theorem of_actor (nm : List UInt8) (L : List Itm) (i : Nat) : actorC (ofG nm L) i = actorC (lookS nm L) i := by
  unfold actorC namedB
  simp only [List.take_zero]
  rfl
/-- What is wrong with the document's graph is what is wrong with the program's. -/
theorem of_first (nm : List UInt8) (L : List Itm) : firstF (ofG nm L) = firstF (lookS nm L) := by
  by_cases h : (headF (lookS nm L)).code = 0
  · by_cases ha : (loopC (lookS nm L).actors.length 0 (fun i => (actorC (lookS nm L) i, 0)) 1).code = 0
    · rw [of_same h ha]
    · have e1 : (fun i => (actorC (ofG nm L) i, (0 : Nat))) = fun i => (actorC (lookS nm L) i, 0) := by funext i; rw [of_actor]
      have e2 : (ofG nm L).actors.length = (lookS nm L).actors.length := rfl
      rw [first_find, first_find]
      unfold findS
      rw [of_head]
      simp only [h, ne_eq, not_true_eq_false, if_false, e1, e2, ha, not_false_eq_true, if_true]
  · rw [first_find, first_find]
    unfold findS
    rw [of_head, if_pos h, if_pos h]
theorem of_sound {nm : List UInt8} {L : List Itm} (h : (firstF (lookS nm L)).code = 0) : ofG nm L = lookS nm L := by
  have hs := (sound_iff _).1 h
  exact of_same hs.head (zero_loop _ _ fun j _ hj => hs.acts j (by omega))
def SlcV (q : Value) : Prop := ∃ a n c, q = .slice a n c
set_option maxRecDepth 100000 in
set_option maxHeartbeats 1000000 in
theorem kindless_any (ki fp fa tp ta pl : Int) (xn xt fn tn : List UInt8) (qa : Option Addr) (qn qc : Nat) (w : World) :
    Calls Tryz.prog 49 #[.agg #[.int .u8 ki, .string (str xn), .string (str xt), .slice qa qn qc, .string (str fn), .int .i64 fp, .int .i64 fa, .string (str tn), .int .i64 tp, .int .i64 ta, .int .i64 pl]] w fun e w' => e = .returned (.bool (decide (ki < 1) || decide (4 < ki))) ∧ Below w.heap.size w w' := by
  have bx := blkA_new 103 w #[.int .u8 ki, .string (str xn), .string (str xt), .slice qa qn qc, .string (str fn), .int .i64 fp, .int .i64 fa, .string (str tn), .int .i64 tp, .int .i64 ta, .int .i64 pl]
  have c0 := bx.cell (k := 0) rfl
  clear bx
  by_cases h1 : ki < 1
  · rw [decide_eq_true h1, Bool.true_or]
    go_enter Tryz.func49, Tryz.ntmps49
    go_wp2
    go_ret
    exact ⟨rfl, (Below.refl _ _).alloc (Nat.le_refl _) _⟩
  · rw [decide_eq_false h1, Bool.false_or]
    by_cases h2 : 4 < ki
    · rw [decide_eq_true h2]
      go_enter Tryz.func49, Tryz.ntmps49
      go_wp2
      go_ret
      exact ⟨rfl, (Below.refl _ _).alloc (Nat.le_refl _) _⟩
    · rw [decide_eq_false h2]
      go_enter Tryz.func49, Tryz.ntmps49
      go_wp2
      go_ret
      exact ⟨rfl, (Below.refl _ _).alloc (Nat.le_refl _) _⟩
theorem IntsAt.slc {w : World} {r : Value} {ns : List Int} (h : IntsAt w r ns) : SlcV r := by
  obtain ⟨a, c, rfl, -⟩ := h
  exact ⟨_, _, _, rfl⟩
set_option maxRecDepth 100000 in
set_option maxHeartbeats 2000000 in
theorem indexF_any (a : Option Addr) (n c : Nat) (L : List (Itm × Value)) (w : World) (hn : L.length = n) (h : ItR w a L) (hl : n ≤ 4000000) :
    Calls Tryz.prog 48 #[.slice a n c, .func (.func 49) #[] #[]] w fun e w' => e = .returned (.int .i64 (idxG (L.map Prod.fst) 0)) ∧ Below w.heap.size w w' := by
  have HR := hiddenG h
  have HL := hiddenG hn
  have hnI : (n : Int) ≤ 4000000 := by omega
  have hK : ∀ (x : Value) (W : World), (callFunc 49 #[x]).run Tryz.prog W = .ok (.enter 49 #[x]) W := fun _ _ => rfl
  clear h hn
  go_enter Tryz.func48, Tryz.ntmps48
  go_wp2
  go_loopg [8] n (fun gk v wr => ∃ k : Nat, k ≤ n ∧ gk = n - k ∧ v = .int .i64 (k : Int) ∧ Below w.heap.size w wr ∧ idxG (L.map Prod.fst) 0 = idxG ((L.map Prod.fst).drop k) k)
  case atStart => exact ⟨0, Nat.zero_le _, rfl, rfl, Below.refl _ _, rfl⟩
  case round =>
    obtain ⟨k, hk, rfl, rfl, hB, hE⟩ := hrel
    have HB := hiddenG hB
    have HE := hiddenG hE
    clear hB hE
    by_cases hlt : k < n
    · have hki : (k : Int) < (n : Int) := by omega
      have hr := HR.out.below HB.out
      rcases hr.lie with e | ⟨g, off, rfl, hc⟩
      · have := HL.out; rw [e] at this; simp at this; omega
      obtain ⟨c0, c1, c2, c3, c4, c5, c6, c7, c8, c9, c10⟩ := hc k (by have := HL.out; omega)
      obtain ⟨qa, qn, qc, hq⟩ := (hr.nums _ (nthI_mem (L := L) (k := k) (by have := HL.out; omega))).slc
      rw [hq] at c3
      have HD := hiddenG (drop_I (L := L) (i := k) (by have := HL.out; omega))
      generalize (nthI L k).1 = x at *
      obtain ⟨ki, xn, xt, ns, ⟨fn, fp, fa⟩, ⟨tn, tp, ta⟩, pl⟩ := x
      simp only at c0 c1 c2 c3 c4 c5 c6 c7 c8 c9 c10
      have HU : Hid (idxG (L.map Prod.fst) 0 = if lessK ⟨ki, xn, xt, ns, ⟨fn, fp, fa⟩, ⟨tn, tp, ta⟩, pl⟩ = true then (k : Int) else idxG ((L.map Prod.fst).drop (k + 1)) (k + 1)) := by
        show _ = _
        rw [HE.out, HD.out]
        rfl
      have HC : Hid (∀ W, Calls Tryz.prog 49 #[.agg #[.int .u8 ki, .string (str xn), .string (str xt), .slice qa qn qc, .string (str fn), .int .i64 fp, .int .i64 fa, .string (str tn), .int .i64 tp, .int .i64 ta, .int .i64 pl]] W fun e w' => e = .returned (.bool (lessK ⟨ki, xn, xt, ns, ⟨fn, fp, fa⟩, ⟨tn, tp, ta⟩, pl⟩)) ∧ Below W.heap.size W w') := fun W => kindless_any ki fp fa tp ta pl xn xt fn tn qa qn qc W
      generalize lessK ⟨ki, xn, xt, ns, ⟨fn, fp, fa⟩, ⟨tn, tp, ta⟩, pl⟩ = b at *
      clear hc hr hq
      cases b
      · go_wp2_with (go_at_call 49; (with_reducible refine (HC.out _).mono ?_); rintro e w1 ⟨rfl, b1⟩; have B1 := hiddenG b1; clear b1)
        go_roundg (n - (k + 1))
        case measure => omega
        case rel => exact ⟨k + 1, by omega, rfl, by go_num, HB.out.trans (B1.out.mono HB.out.size), by rw [HU.out]; rfl⟩
      · go_wp2_with (go_at_call 49; (with_reducible refine (HC.out _).mono ?_); rintro e w1 ⟨rfl, b1⟩; have B1 := hiddenG b1; clear b1)
        go_ret
        exact ⟨by rw [HU.out]; rfl, HB.out.trans (B1.out.mono HB.out.size)⟩
    · have hki : ¬ (k : Int) < (n : Int) := by omega
      go_wp2
      go_ret
      refine ⟨?_, HB.out⟩
      rw [HE.out, List.drop_eq_nil_of_le (by rw [List.length_map, HL.out]; omega)]
      rfl
set_option maxRecDepth 100000 in
set_option maxHeartbeats 1000000 in
theorem placeWithin_any (x : Itm) (qa : Option Addr) (qn qc : Nat) (s : Nat) (w : World) :
    Calls Tryz.prog 92 #[.agg (itC x.kind x.name x.tag (.slice qa qn qc) x.frm x.tgt x.place), .int .u8 (s : Int)] w fun e w' => e = .returned (.int .i64 (withinS x s)) ∧ Below w.heap.size w w' := by
  obtain ⟨ki, xn, xt, ns, ⟨fn, fp, fa⟩, ⟨tn, tp, ta⟩, pl⟩ := x
  unfold withinS itC
  simp only
  have bx := blkA_new 103 w #[.int .u8 ki, .string (str xn), .string (str xt), .slice qa qn qc, .string (str fn), .int .i64 fp, .int .i64 fa, .string (str tn), .int .i64 tp, .int .i64 ta, .int .i64 pl]
  have c6 := bx.cell (k := 6) rfl
  have c9 := bx.cell (k := 9) rfl
  have c10 := bx.cell (k := 10) rfl
  clear bx
  by_cases h1 : s = 1
  · subst h1
    rw [if_pos rfl]
    go_enter Tryz.func92, Tryz.ntmps92
    go_wp2
    go_ret
    exact ⟨rfl, (Below.refl _ _).alloc (Nat.le_refl _) _⟩
  · rw [if_neg h1]
    have e1 : ((s : Int) == 1) = false := by simp; omega
    by_cases h2 : s = 2
    · subst h2
      rw [if_pos rfl]
      go_enter Tryz.func92, Tryz.ntmps92
      go_wp2
      go_ret
      exact ⟨rfl, (Below.refl _ _).alloc (Nat.le_refl _) _⟩
    · rw [if_neg h2]
      have e2 : ((s : Int) == 2) = false := by simp; omega
      go_enter Tryz.func92, Tryz.ntmps92
      go_wp2
      go_ret
      exact ⟨rfl, (Below.refl _ _).alloc (Nat.le_refl _) _⟩
set_option maxRecDepth 100000 in
set_option maxHeartbeats 2000000 in
theorem placeOf_any (f : FL) (a : Option Addr) (n c : Nat) (L : List (Itm × Value)) (w : World) (hn : L.length = n) (h : ItR w a L) (hl : n ≤ 4000000) (hf : f.number ≤ 1000) :
    Calls Tryz.prog 51 #[flV f, .slice a n c] w fun e w' => e = .returned (.int .i64 (placeG (L.map Prod.fst) 0 f)) ∧ Below w.heap.size w w' := by
  have HR := hiddenG h
  have HL := hiddenG hn
  have hnI : (n : Int) ≤ 4000000 := by omega
  obtain ⟨fc, fk, fnr, fs⟩ := f
  unfold flV
  simp only at hf ⊢
  have ba := (Below.refl w.heap.size w).alloc (Nat.le_refl _) (.cells #[.int .i64 fc, .int .u8 (fk : Int), .int .i64 (fnr : Int), .int .u8 (fs : Int)] 85)
  have BA := hiddenG ba
  have BX := hiddenG (blkA_new 85 w #[.int .i64 fc, .int .u8 (fk : Int), .int .i64 (fnr : Int), .int .u8 (fs : Int)])
  have hfI : (fnr : Int) ≤ 1000 := by omega
  clear h hn ba
  go_enter Tryz.func51, Tryz.ntmps51
  go_wp2
  go_loopg [5, 10] n (fun gk nv v wr => ∃ k m : Nat, k ≤ n ∧ m ≤ k ∧ gk = n - k ∧ v = .int .i64 (k : Int) ∧ nv = .int .i64 (m : Int) ∧ Below w.heap.size w wr ∧ BlkA 85 w.heap.size wr #[.int .i64 fc, .int .u8 (fk : Int), .int .i64 (fnr : Int), .int .u8 (fs : Int)] ∧ placeG (L.map Prod.fst) 0 ⟨fc, fk, fnr, fs⟩ = placeG ((L.map Prod.fst).drop k) m ⟨fc, fk, fnr, fs⟩)
  case atStart => exact ⟨0, 0, Nat.zero_le _, Nat.le_refl _, rfl, rfl, rfl, BA.out, BX.out, rfl⟩
  case round =>
    obtain ⟨k, m, hk, hmk, rfl, rfl, rfl, hB, hX, hE⟩ := hrel
    have HB := hiddenG hB
    have HX := hiddenG hX
    have HE := hiddenG hE
    clear hB hE hX
    by_cases hlt : k < n
    · have hki : (k : Int) < (n : Int) := by omega
      have hr := HR.out.below HB.out
      rcases hr.lie with e | ⟨g, off, rfl, hc⟩
      · have := HL.out; rw [e] at this; simp at this; omega
      obtain ⟨c0, c1, c2, c3, c4, c5, c6, c7, c8, c9, c10⟩ := hc k (by have := HL.out; omega)
      obtain ⟨qa, qn, qc, hq⟩ := (hr.nums _ (nthI_mem (L := L) (k := k) (by have := HL.out; omega))).slc
      rw [hq] at c3
      have HD := hiddenG (drop_I (L := L) (i := k) (by have := HL.out; omega))
      generalize (nthI L k).1 = x at *
      obtain ⟨ki, xn, xt, ns, ⟨fn, fp, fa⟩, ⟨tn, tp, ta⟩, pl⟩ := x
      simp only at c0 c1 c2 c3 c4 c5 c6 c7 c8 c9 c10
      have HU : Hid (placeG (L.map Prod.fst) 0 ⟨fc, fk, fnr, fs⟩ = if ki = (fk : Int) then (if m = fnr then withinS ⟨ki, xn, xt, ns, ⟨fn, fp, fa⟩, ⟨tn, tp, ta⟩, pl⟩ fs else placeG ((L.map Prod.fst).drop (k + 1)) (m + 1) ⟨fc, fk, fnr, fs⟩) else placeG ((L.map Prod.fst).drop (k + 1)) m ⟨fc, fk, fnr, fs⟩) := by
        show _ = _
        rw [HE.out, HD.out]
        rfl
      have bv := (Below.refl wr.heap.size wr).alloc (Nat.le_refl _) (.cells #[.int .u8 ki, .string (str xn), .string (str xt), .slice qa qn qc, .string (str fn), .int .i64 fp, .int .i64 fa, .string (str tn), .int .i64 tp, .int .i64 ta, .int .i64 pl] 103)
      have BV := hiddenG (HB.out.trans (bv.mono HB.out.size))
      have XV := hiddenG (HX.out.below bv)
      have x1 := XV.out.cell (k := 1) rfl
      have x2 := XV.out.cell (k := 2) rfl
      have x3 := XV.out.cell (k := 3) rfl
      have PW : Hid (∀ W, Calls Tryz.prog 92 #[.agg #[.int .u8 ki, .string (str xn), .string (str xt), .slice qa qn qc, .string (str fn), .int .i64 fp, .int .i64 fa, .string (str tn), .int .i64 tp, .int .i64 ta, .int .i64 pl], .int .u8 (fs : Int)] W fun e w' => e = .returned (.int .i64 (withinS ⟨ki, xn, xt, ns, ⟨fn, fp, fa⟩, ⟨tn, tp, ta⟩, pl⟩ fs)) ∧ Below W.heap.size W w') := fun W => placeWithin_any ⟨ki, xn, xt, ns, ⟨fn, fp, fa⟩, ⟨tn, tp, ta⟩, pl⟩ qa qn qc fs W
      clear hc hr hq bv
      by_cases h1 : ki = (fk : Int)
      · subst h1
        have e1 : (((fk : Int)) != (fk : Int)) = false := by simp
        by_cases h2 : m = fnr
        · subst h2
          have e2 : ((m : Int) == (m : Int)) = true := by simp
          go_wp2_with (go_at_call 92; (with_reducible refine (PW.out _).mono ?_); rintro e w1 ⟨rfl, b1⟩; have B1 := hiddenG b1; clear b1)
          go_ret
          exact ⟨by rw [HU.out, if_pos trivial, if_pos trivial]; rfl, BV.out.trans (B1.out.mono BV.out.size)⟩
        · have e2 : ((m : Int) == (fnr : Int)) = false := by simp; omega
          go_wp2
          go_roundg (n - (k + 1))
          case measure => omega
          case rel => exact ⟨k + 1, m + 1, by omega, by omega, rfl, by go_num, by go_num, BV.out, XV.out, by rw [HU.out, if_pos trivial, if_neg h2]⟩
      · have e1 : (ki != (fk : Int)) = true := by simpa using h1
        go_wp2
        go_roundg (n - (k + 1))
        case measure => omega
        case rel => exact ⟨k + 1, m, by omega, by omega, rfl, by go_num, rfl, BV.out, XV.out, by rw [HU.out, if_neg h1]⟩
    · have hki : ¬ (k : Int) < (n : Int) := by omega
      go_wp2
      go_ret
      refine ⟨?_, HB.out⟩
      rw [HE.out, List.drop_eq_nil_of_le (by rw [List.length_map, HL.out]; omega)]
      rfl
end Go.Proofs.YtolpelfdhcccnaaGreatDoor

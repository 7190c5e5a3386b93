/- Texts of one chain, laid one behind the other. -/
import Derived.Test.YtlfmmdioondaoaaPartGraphOrder26
import Derived.Test.YtlfmmdioondaoaaPartGraphOrder25
namespace Go.Proofs.Ytlfmmdioondaoaa
open Go.ChangeShapes Go.WideShapes Go.ChangeAt Go.RowKit
def NewO (B : Nat) (T : TypeId) (cs : Array Value) (u : World) (v : Value) : Prop := ∃ xb, v = .pointer (some ⟨xb, 0, none⟩) ∧ B ≤ xb ∧ BlkA T xb u cs
theorem NewO.later {B : Nat} {T : TypeId} {cs : Array Value} {u u' : World} {v : Value} (h : NewO B T cs u v) (hb : Below u.heap.size u u') : NewO B T cs u' v := by
  obtain ⟨xb, h1, h2, h3⟩ := h
  exact ⟨xb, h1, h2, h3.below hb⟩
def LnG (g : GG) (B : Nat) (u : World) (v : Value) : Prop := ∃ x1 x2 x3 x4 d1 d2 d3 d4, v = .agg #[.string (str g.name), .slice x1 g.actors.length d1, .slice x2 g.edges.length d2, .slice x3 g.ins.length d3, .slice x4 g.outs.length d4] ∧ LentA B u x1 d1 g.actors
def LnS (g : GG) (B : Nat) (u : World) (v : Value) : Prop := ∃ x1 d1, v = .slice x1 g.actors.length d1 ∧ LentA B u x1 d1 g.actors
def LnB (g : GG) (B : Nat) (u : World) (v : Value) : Prop := ∃ x1 d1, v = .agg #[.string (str g.name), .slice x1 g.actors.length d1, .slice none 0 0, .slice none 0 0, .slice none 0 0] ∧ LentA B u x1 d1 g.actors
theorem lentA_later {B : Nat} {u u' : World} {x : Option Addr} {d : Nat} {As : List GA} (h : LentA B u x d As) (hb : Below u.heap.size u u') : LentA B u' x d As := h.keep fun k _ hk => hb.block k hk
theorem LnG.later {g : GG} {B : Nat} {u u' : World} {v : Value} (h : LnG g B u v) (hb : Below u.heap.size u u') : LnG g B u' v := by
  obtain ⟨x1, x2, x3, x4, d1, d2, d3, d4, h1, h2⟩ := h
  exact ⟨x1, x2, x3, x4, d1, d2, d3, d4, h1, lentA_later h2 hb⟩
theorem LnS.later {g : GG} {B : Nat} {u u' : World} {v : Value} (h : LnS g B u v) (hb : Below u.heap.size u u') : LnS g B u' v := by
  obtain ⟨x1, d1, h1, h2⟩ := h
  exact ⟨x1, d1, h1, lentA_later h2 hb⟩
theorem LnB.later {g : GG} {B : Nat} {u u' : World} {v : Value} (h : LnB g B u v) (hb : Below u.heap.size u u') : LnB g B u' v := by
  obtain ⟨x1, d1, h1, h2⟩ := h
  exact ⟨x1, d1, h1, lentA_later h2 hb⟩
theorem lnG_of {g : GG} {U w'' : World} {e : Ending} {B : Nat} (h : LentGE g U e w'') (hB : B ≤ U.heap.size) : ∃ v, e = .returned v ∧ Below U.heap.size U w'' ∧ LnG g B w'' v := by
  obtain ⟨x1, x2, x3, x4, d1, d2, d3, d4, h1, h2, h3⟩ := h
  exact ⟨_, h1, h3, x1, x2, x3, x4, d1, d2, d3, d4, rfl, h2.a.base hB⟩
def StO (w : World) (p : GE × Value) : Prop := ∃ x c, p.2 = .slice x p.1.start.length c ∧ Arg w x p.1.start.length c p.1.start
set_option maxRecDepth 100000 in
set_option maxHeartbeats 64000000 in
theorem graphOrder_walk (g : GG) (a1 a2 a3 a4 : Option Addr) (c1 c2 c3 c4 : Nat) (w : World) (h : ArgG w a1 a2 a3 a4 c3 c4 g) :
    Calls Try.prog 6 #[.agg #[.string (str g.name), .slice a1 g.actors.length c1, .slice a2 g.edges.length c2, .slice a3 g.ins.length c3, .slice a4 g.outs.length c4]] w fun e w' => e = .returned (.bool true) ∧ Below w.heap.size w w' := by
  have ba := (Below.refl w.heap.size w).alloc (Nat.le_refl _) (.cells #[.string (str g.name), .slice a1 g.actors.length c1, .slice a2 g.edges.length c2, .slice a3 g.ins.length c3, .slice a4 g.outs.length c4] 31)
  have BA := hiddenG ba
  have X0 := hiddenG (blkA_new 31 w #[.string (str g.name), .slice a1 g.actors.length c1, .slice a2 g.edges.length c2, .slice a3 g.ins.length c3, .slice a4 g.outs.length c4])
  have HG0 := hiddenG h.gr
  have HN := hiddenG h.gr.nums
  have HV := hiddenG (heavyGraph_any g a1 a2 a3 a4 c1 c2 c3 c4 _ (h.gr.below ba))
  have AW : Hid (∀ U, Calls Try.prog 14 #[] U fun e w' => e = .returned (.bool true) ∧ Below U.heap.size U w') := fun U => awake8 U
  have LG : Hid (Light g → ∀ U, Below w.heap.size w U → Calls Try.prog 17 #[.agg #[.string (str g.name), .slice a1 g.actors.length c1, .slice a2 g.edges.length c2, .slice a3 g.ins.length c3, .slice a4 g.outs.length c4]] U (LentGE g U)) := fun hL U hb => lentGraph_any g a1 a2 a3 a4 c1 c2 c3 c4 U (h.below hb) hL
  have CK : Hid (∀ (gg : GG) U b1 b2 b3 b4 e1 e2 e3 e4, GrG U b1 b2 b3 b4 gg → Calls Try.prog 25 #[.agg #[.string (str gg.name), .slice b1 gg.actors.length e1, .slice b2 gg.edges.length e2, .slice b3 gg.ins.length e3, .slice b4 gg.outs.length e4]] U fun e w' => e = .returned (.int .i64 (firstF gg).code) ∧ Below U.heap.size U w') := fun gg U b1 b2 b3 b4 e1 e2 e3 e4 hh => check_any gg b1 b2 b3 b4 e1 e2 e3 e4 U hh
  have z0 := X0.out.cell (k := 0) rfl
  have z1 := X0.out.cell (k := 1) rfl
  have z2 := X0.out.cell (k := 2) rfl
  have z3 := X0.out.cell (k := 3) rfl
  have z4 := X0.out.cell (k := 4) rfl
  simp only [List.getElem_toArray, List.getElem_cons_zero, List.getElem_cons_succ] at z0 z1 z2 z3 z4
  unfold HeavyE at HV
  clear ba h
  go_enter Try.func6, Try.ntmps6
  go_upto_region 1 with fail
  generalize w.alloc (.cells #[.string (str g.name), .slice a1 g.actors.length c1, .slice a2 g.edges.length c2, .slice a3 g.ins.length c3, .slice a4 g.outs.length c4] 31) = W0 at *
  go_upto_region 3 with (go_at_call 16; (with_reducible refine HV.out.mono ?_); rintro e W1 ⟨bv, rfl, hL, b1⟩; have L1 := hiddenG (BA.out.trans (b1.mono BA.out.size)); have X1 := hiddenG (X0.out.below b1); have HLT := hiddenG hL; clear b1 hL z0 z1 z2 z3 z4; cases bv)
  rotate_left
  · go_ret
    exact ⟨rfl, L1.out⟩
  have HL := hiddenG (HLT.out (by first | trivial | rfl))
  clear HLT X0 BA HV
  have z0 := X1.out.cell (k := 0) rfl
  have z1 := X1.out.cell (k := 1) rfl
  have z2 := X1.out.cell (k := 2) rfl
  have z3 := X1.out.cell (k := 3) rfl
  have z4 := X1.out.cell (k := 4) rfl
  simp only [List.getElem_toArray, List.getElem_cons_zero, List.getElem_cons_succ] at z0 z1 z2 z3 z4
  have LG1 := hiddenG (LG.out HL.out W1 L1.out)
  have CL : Hid (∀ U x1 x2 x3 x4 d1 d2 d3 d4 B, LentG B U x1 x2 x3 x4 d1 d2 d3 d4 g → Calls Try.prog 25 #[.agg #[.string (str g.name), .slice x1 g.actors.length d1, .slice x2 g.edges.length d2, .slice x3 g.ins.length d3, .slice x4 g.outs.length d4]] U fun e w' => e = .returned (.int .i64 (firstF g).code) ∧ Below U.heap.size U w') := fun U x1 x2 x3 x4 d1 d2 d3 d4 B hl => check_any g x1 x2 x3 x4 d1 d2 d3 d4 U (hl.gr HN.out HL.out)
  obtain ⟨cd, hcd⟩ : ∃ q, (firstF g).code = q := ⟨_, rfl⟩
  rw [hcd] at CL
  have HCD := hiddenG hcd
  clear hcd
  by_cases hc : cd = 0
  case neg =>
    have hne : (cd != 0) = true := by simpa using hc
    go_wp2_with (first
      | (go_at_call 25; (with_reducible refine (CL.out _ _ _ _ _ _ _ _ _ _ L2x.out).mono ?_); rintro e w3 ⟨rfl, b3⟩; have L3 := hiddenG (L2.out.trans (b3.mono L2.out.size)); clear b3)
      | (go_at_call 17; (with_reducible refine LG1.out.mono ?_); rintro e w2 ⟨x1, x2, x3, x4, d1, d2, d3, d4, rfl, hl, b2⟩; have L2x := hiddenG hl; have L2 := hiddenG (L1.out.trans (b2.mono L1.out.size)); clear hl b2)
      | (go_at_call 14; (with_reducible refine (AW.out _).mono ?_); rintro e V9 ⟨rfl, v9⟩; have M9 := hiddenG (L3.out.trans (v9.mono L3.out.size)); clear v9))
    go_ret
    exact ⟨rfl, M9.out⟩
  subst hc
  have HS := hiddenG ((sound_iff g).1 HCD.out)
  have SR := hiddenG (sound_rev HS.out)
  obtain ⟨-, -, hd2, hd3, hd4, hd5⟩ := head_ok HS.out.head
  go_upto_region 5 with (first
    | (go_at_call 25; (with_reducible refine (CL.out _ _ _ _ _ _ _ _ _ _ L2x.out).mono ?_); rintro e V2 ⟨rfl, b3⟩; have L3 := hiddenG (L2.out.trans (b3.mono L2.out.size)); have X3 := hiddenG (X2.out.below b3); clear b3)
    | (go_at_call 17; (with_reducible refine LG1.out.mono ?_); rintro e w2 ⟨x1, x2, x3, x4, d1, d2, d3, d4, rfl, hl, b2⟩; have L2x := hiddenG hl; have L2 := hiddenG (L1.out.trans (b2.mono L1.out.size)); have X2 := hiddenG (X1.out.below b2); clear hl b2 z0 z1 z2 z3 z4))
  have z0 := X3.out.cell (k := 0) rfl
  have z1 := X3.out.cell (k := 1) rfl
  have z2 := X3.out.cell (k := 2) rfl
  have z3 := X3.out.cell (k := 3) rfl
  have z4 := X3.out.cell (k := 4) rfl
  simp only [List.getElem_toArray, List.getElem_cons_zero, List.getElem_cons_succ] at z0 z1 z2 z3 z4
  have LG2 : Hid (∀ U, Below V2.heap.size V2 U → Calls Try.prog 17 #[.agg #[.string (str g.name), .slice a1 g.actors.length c1, .slice a2 g.edges.length c2, .slice a3 g.ins.length c3, .slice a4 g.outs.length c4]] U (LentGE g U)) := fun U hU => LG.out HL.out U (L3.out.trans (hU.mono L3.out.size))
  clear LG LG1 CL L1 X1 L2x X2 L2
  refine wp_region_said 7 (fun i u v => match i with
      | 0 => v = .pointer (some ⟨w.heap.size, 0, none⟩)
      | 1 => v = .string (str g.name)
      | 2 => v = .agg #[.string (str g.name), .slice a1 g.actors.length c1, .slice a2 g.edges.length c2, .slice a3 g.ins.length c3, .slice a4 g.outs.length c4]
      | 3 => LnG g V2.heap.size u v
      | 4 => LnS g V2.heap.size u v
      | 5 => LnB g V2.heap.size u v
      | 6 => NewO V2.heap.size 31 #[.string ⟨#[]⟩, .slice none 0 0, .slice none 0 0, .slice none 0 0, .slice none 0 0] u v
      | _ => True) (by kernel_rfl) (by kernel_rfl) (by kernel_rfl) (by kernel_rfl) ?_ ?_ ?_
  · intro i w v w' h hb
    match i, h with
    | 0, h => exact h
    | 1, h => exact h
    | 2, h => exact h
    | 3, h => exact h.later hb
    | 4, h => exact h.later hb
    | 5, h => exact h.later hb
    | 6, h => exact h.later hb
    | _ + 7, _ => trivial
  · intro i o ρ w' hi ho hb hc hf hfr hdep
    have y0 := cellG hb z0
    have y1 := cellG hb z1
    have y2 := cellG hb z2
    have y3 := cellG hb z3
    have y4 := cellG hb z4
    match i, hi with
    | 0, _ =>
      simp only [gTA, gCZ, gSI] at ho
      subst ho
      have ts : ρ (.tmp 1) = .pointer (some ⟨w.heap.size, 0, none⟩) := hfr 1 (by kernel_rfl)
      simp [go_sem, ts]
      exact ⟨Below.refl _ _, rfl⟩
    | 1, _ =>
      simp only [gTA, gCZ, gCS, gSI] at ho
      subst ho
      have ts : ρ (.tmp 17) = .pointer (some ⟨w.heap.size, 0, none⟩) := hdep 0 17 (by kernel_rfl) (by kernel_rfl)
      simp [go_sem, ts, y0]
      exact ⟨Below.refl _ _, rfl⟩
    | 2, _ =>
      simp only [gTA, gCZ, gCS, gSI] at ho
      subst ho
      have ts : ρ (.tmp 1) = .pointer (some ⟨w.heap.size, 0, none⟩) := hfr 1 (by kernel_rfl)
      simp [go_sem, ts, y0, y1, y2, y3, y4]
      exact ⟨Below.refl _ _, rfl⟩
    | 3, _ =>
      simp only [gTA, gCZ, gCS, gSI] at ho
      subst ho
      have t0 : ρ (.tmp 19) = .agg #[.string (str g.name), .slice a1 g.actors.length c1, .slice a2 g.edges.length c2, .slice a3 g.ins.length c3, .slice a4 g.outs.length c4] := hdep 2 19 (by kernel_rfl) (by kernel_rfl)
      simp [go_sem, t0, hf]
      exact ⟨rfl, (LG2.out w' hb).mono fun e' w'' hh => lnG_of hh hb.size⟩
    | 4, _ =>
      simp only [gTA, gCZ, gCS, gSI] at ho
      subst ho
      have t0 : LnG g V2.heap.size w' (ρ (.tmp 20)) := hdep 3 20 (by kernel_rfl) (by kernel_rfl)
      obtain ⟨x1, x2, x3, x4, d1, d2, d3, d4, e0, hA⟩ := t0
      simp [go_sem, e0]
      exact ⟨Below.refl _ _, x1, d1, rfl, hA⟩
    | 5, _ =>
      simp only [gTA, gCZ, gCS, gSI] at ho
      subst ho
      have t0 : ρ (.tmp 18) = .string (str g.name) := hdep 1 18 (by kernel_rfl) (by kernel_rfl)
      have t1 : LnS g V2.heap.size w' (ρ (.tmp 21)) := hdep 4 21 (by kernel_rfl) (by kernel_rfl)
      obtain ⟨x1, d1, e0, hA⟩ := t1
      simp [go_sem, t0, e0]
      exact ⟨Below.refl _ _, x1, d1, rfl, hA⟩
    | 6, _ =>
      simp only [gTA, gCZ, gCS, gSI] at ho
      subst ho
      simp [go_sem]
      exact ⟨(Below.refl _ _).alloc (Nat.le_refl _) _, w'.heap.size, rfl, hb.size, blkA_new 31 w' #[.string ⟨#[]⟩, .slice none 0 0, .slice none 0 0, .slice none 0 0, .slice none 0 0]⟩
  · intro V W9 q9 hS
    have e0 : V 0 = .pointer (some ⟨w.heap.size, 0, none⟩) := hS 0 (by decide)
    have e1 : V 1 = .string (str g.name) := hS 1 (by decide)
    have e2 : V 2 = .agg #[.string (str g.name), .slice a1 g.actors.length c1, .slice a2 g.edges.length c2, .slice a3 g.ins.length c3, .slice a4 g.outs.length c4] := hS 2 (by decide)
    obtain ⟨q1, q2, q3, q4, q5, q6, q7, q8, e3, -⟩ : LnG g V2.heap.size W9 (V 3) := hS 3 (by decide)
    obtain ⟨r1, r2, e4, -⟩ : LnS g V2.heap.size W9 (V 4) := hS 4 (by decide)
    obtain ⟨x1, d1, e5, hLA⟩ : LnB g V2.heap.size W9 (V 5) := hS 5 (by decide)
    obtain ⟨hb, e6, hxw, xX⟩ : NewO V2.heap.size 31 #[.string ⟨#[]⟩, .slice none 0 0, .slice none 0 0, .slice none 0 0, .slice none 0 0] W9 (V 6) := hS 6 (by decide)
    simp only [List.drop_succ_cons, List.drop_zero, List.take_succ_cons, List.take_zero, puts, e0, e1, e2, e3, e4, e5, e6]
    clear hS e0 e1 e2 e3 e4 e5 e6 V
    simp only [Act.put, List.setIfInBounds_toArray, List.set_cons_zero, List.set_cons_succ]
    have XX := hiddenG xX
    have Q9 := hiddenG q9
    have HLA := hiddenG hLA
    have hgh' : w.heap.size < V2.heap.size := X3.out.lt
    clear xX q9 hLA z0 z1 z2 z3 z4
    go_upto_region 6 with (refine wpList_storeW _ rfl 31 (.tmp 3) (.tmp 22) rfl rfl hb 31 _ _ rfl rfl XX.out sizG rfl rfl ?_; intro V5 hN hU; have BK1 := hiddenG hN; have U5 := hiddenG hU; clear hN hU)
    have hwh : w.heap.size ≤ hb := by omega
    have hgh : w.heap.size ≠ hb := by omega
    have LV := hiddenG (Q9.out.trans (U5.out.below hxw Q9.out.size))
    have BL2 := hiddenG (L3.out.trans (LV.out.mono L3.out.size))
    have XG2 := hiddenG (X3.out.below LV.out)
    have RW1 : Hid (∀ w', (∀ k, k < V5.heap.size → k ≠ hb → w'.heap[k]? = V5.heap[k]?) → GrA w' x1 g.actors) := fun w' hk => lentA_away HLA.out HN.out.1 XX.out (fun k hk1 hk2 => (hk k (Nat.lt_of_lt_of_le hk1 U5.out.size) hk2).trans (U5.out.block k hk1 hk2))
    clear XX Q9 HLA U5 LV X3 L3 LG2
    have FI0 := hiddenG (FilO.nil 54 5 BK1.out)
    have z0 := XG2.out.cell (k := 0) rfl
    have z1 := XG2.out.cell (k := 1) rfl
    have z2 := XG2.out.cell (k := 2) rfl
    have z3 := XG2.out.cell (k := 3) rfl
    have z4 := XG2.out.cell (k := 4) rfl
    simp only [List.getElem_toArray, List.getElem_cons_zero, List.getElem_cons_succ] at z0 z1 z2 z3 z4
    have hwE : IntKind.i64.wrap ((g.edges.length : Int) - 1) = (g.edges.length : Int) - 1 := by rw [IntKind.wrap_i64]; omega
    have hwI : IntKind.i64.wrap ((g.ins.length : Int) - 1) = (g.ins.length : Int) - 1 := by rw [IntKind.wrap_i64]; omega
    have hwO : IntKind.i64.wrap ((g.outs.length : Int) - 1) = (g.outs.length : Int) - 1 := by rw [IntKind.wrap_i64]; omega
    go_wp2
    clear z0 z1 z2 z3 z4
    go_loopg [4] g.edges.length (fun gk u wr => ∃ (q : Nat) (zz : Int) (d : Option Addr) (kk : Nat) (M : List (GE × Value)), q ≤ g.edges.length ∧ gk = q ∧ u = .int .i64 zz ∧ zz = (q : Int) - 1 ∧ M.map Prod.fst = (g.edges.drop q).reverse ∧ (∀ p ∈ M, StO w p) ∧ FilO V5 wr hb 54 5 #[.string (str g.name), .slice x1 g.actors.length d1, .slice d M.length kk, .slice none 0 0, .slice none 0 0] (.slice d M.length kk) M.length (M.flatMap eP))
    case atStart => exact ⟨g.edges.length, (g.edges.length : Int) - 1, none, 0, [], Nat.le_refl _, rfl, by first | rfl | go_num, rfl, by rw [List.drop_length]; rfl, (fun p hp => by cases hp), FI0.out⟩
    case round =>
      clear FI0
      obtain ⟨q, zz, d, kk, M, hq, rfl, rfl, hzz, hM, hMs, hF⟩ := hrel
      have FX := hiddenG hF
      have HM := hiddenG hM
      have HMS := hiddenG hMs
      clear hF hM hMs
      cases gk with
      | succ k =>
        have hz' : zz = (k : Int) := by omega
        subst hz'
        clear hzz
        have hkl : k < g.edges.length := by omega
        have hkI : (k : Int) < (g.edges.length : Int) := by omega
        have hw1 : IntKind.i64.wrap ((k : Int) - 1) = (k : Int) - 1 := by rw [IntKind.wrap_i64]; omega
        have BW := hiddenG (BL2.out.trans (FX.out.bel hwh))
        have XG := hiddenG (XG2.out.keep (FX.out.keep _ XG2.out.lt hgh))
        have LB : Hid (V5.heap.size ≤ wr.heap.size) := FX.out.chg.size
        have hMl : M.length ≤ 96 := by
          have := congrArg List.length HM.out
          simp at this
          omega
        have RD := hiddenG (rev_dropE hkl)
        rcases HG0.out.E with e | ⟨eb, eo, ee, hce⟩
        · rw [e] at hkl; exact absurd hkl (Nat.not_lt_zero _)
        obtain ⟨f0, f1, f2, f3, xs, cx, f4, hAr⟩ := hce k hkl
        have fe0 := hiddenG f0
        have e0 := cellG BW.out f0
        have e1 := cellG BW.out f1
        have e2 := cellG BW.out f2
        have e3 := cellG BW.out f3
        have e4 := cellG BW.out f4
        have HST : Hid (StO w (nthE g.edges k, .slice xs (nthE g.edges k).start.length cx)) := ⟨xs, cx, rfl, hAr⟩
        clear f0 f1 f2 f3 f4 hce hAr
        subst ee
        generalize nthE g.edges k = ed at *
        have heb := block_lt_of_cell fe0.out
        simp only at heb
        have hwl : w.heap.size < V5.heap.size := XG2.out.lt
        have NG : Hid ((.slice d M.length kk : Value).ownBlock ≠ some w.heap.size) := fun e => by have := own_row FX.out.row _ e; omega
        have NE : Hid (¬ (.slice d M.length kk : Value).ownBlock = some eb) := fun e => by have := own_row FX.out.row _ e; omega
        clear fe0
        obtain ⟨i0, hi, hz0, hz1, hz2⟩ := info_parts Try.infoEdgeO
        go_upto_region 9 with fail
        refine wp_region_gen [8, 10] (fun d_ i u z => match i with
            | 0 => z = .pointer (some ⟨hb, 2, none⟩)
            | 1 => z = .slice d M.length kk
            | 2 => z = .pointer (some ⟨w.heap.size, 2, none⟩)
            | 3 => z = .slice (some ⟨eb, eo, none⟩) g.edges.length c2
            | 4 => z = .int .i64 (k : Int)
            | 5 => z = .pointer (some ⟨eb, eo + k * 5, none⟩)
            | 6 => z = .agg #[.int .i64 ed.f, .int .i64 ed.fp, .int .i64 ed.t, .int .i64 ed.tp, .slice xs ed.start.length cx]
            | 7 => (d_ 8 = false → ElC (fun _ es => es = eP (ed, .slice xs ed.start.length cx)) wr u z)
            | 8 => (d_ 8 = true ∧ (d_ 10 = false → ElA (fun _ es => es = eP (ed, .slice xs ed.start.length cx)) wr V5.heap.size 54 5 (.slice d M.length kk) M.length (M.flatMap eP) u z))
            | 9 => z = .pointer (some ⟨hb, 2, none⟩)
            | 10 => True
            | _ => True) (fun d_ u => (d_ 8 = false → Below wr.heap.size wr u) ∧ (d_ 10 = false → Chg (fun k => (.slice d M.length kk : Value).ownBlock = some k) wr u) ∧ (d_ 10 = true → AppE (fun _ es => es = eP (ed, .slice xs ed.start.length cx)) wr V5.heap.size 54 5 (.slice d M.length kk) M.length (M.flatMap eP) 31 hb 2 #[.string (str g.name), .slice x1 g.actors.length d1, .slice d M.length kk, .slice none 0 0, .slice none 0 0] u)) (by kernel_rfl) (by kernel_rfl) (by kernel_rfl) ?_ ?_ ?_ ?_ ?_ ?_ (by kernel_rfl)
        · intro d_ i w_ v_ w' h hb_
          match i, h with
          | 0, h => exact h
          | 1, h => exact h
          | 2, h => exact h
          | 3, h => exact h
          | 4, h => exact h
          | 5, h => exact h
          | 6, h => exact h
          | 7, h => exact fun e => (h e).later (fun _ _ _ h _ => h) hb_
          | 8, h => exact ⟨h.1, fun e => (h.2 e).later hb_⟩
          | 9, h => exact h
          | 10, h => exact h
          | _ + 11, _ => trivial
        · intro d_ u u' h hb_
          exact ⟨fun e => (h.1 e).trans (hb_.mono (h.1 e).size), fun e => (h.2.1 e).trans' (Chg.of_below hb_), fun e => (h.2.2 e).later hb_⟩
        · exact ⟨fun _ => Below.refl _ _, fun _ => Chg.of_below (Below.refl _ _), fun e => absurd e (by decide)⟩
        · intro d_ i o ρ w' hm ho hf hg hC hcs hfs hfr hdep
          match i, hm, ho, hf, hg, hfr, hdep with
          | 0, _, ho, hf, hg, hfr, hdep =>
            simp only [gTA, gCZ, gSI] at ho
            subst ho
            refine ⟨fun _ => ?_, fun hw => absurd (show true = false from hw) (by decide)⟩
            have ts : ρ (.tmp 3) = .pointer (some ⟨hb, 0, none⟩) := hfr 3 (by kernel_rfl)
            simp [go_sem, ts]
            exact ⟨Below.refl _ _, rfl⟩
          | 1, _, ho, hf, hg, hfr, hdep =>
            simp only [gTA, gCZ, gCS, gSI] at ho
            subst ho
            refine ⟨fun _ => ?_, fun hw => absurd (show true = false from hw) (by decide)⟩
            have h8 : d_ 8 = false := hf 8 (by decide) (by kernel_rfl)
            have cc : w'.cell? ⟨hb, 2, none⟩ = some (.slice d M.length kk) := (FX.out.blk.below (hC.1 h8)).cell rfl
            have d0 : ρ (.tmp 31) = .pointer (some ⟨hb, 2, none⟩) := hdep 0 31 (by kernel_rfl) (by kernel_rfl)
            simp [go_sem, d0, cc]
            exact ⟨Below.refl _ _, rfl⟩
          | 2, _, ho, hf, hg, hfr, hdep =>
            simp only [gTA, gCZ, gCS, gSI] at ho
            subst ho
            refine ⟨fun _ => ?_, fun hw => absurd (show true = false from hw) (by decide)⟩
            have ts : ρ (.tmp 1) = .pointer (some ⟨w.heap.size, 0, none⟩) := hfr 1 (by kernel_rfl)
            simp [go_sem, ts]
            exact ⟨Below.refl _ _, rfl⟩
          | 3, _, ho, hf, hg, hfr, hdep =>
            simp only [gTA, gCZ, gCS, gSI] at ho
            subst ho
            refine ⟨fun _ => ?_, fun hw => absurd (show true = false from hw) (by decide)⟩
            have h10 : d_ 10 = false := hf 10 (by decide) (by kernel_rfl)
            have cc : w'.cell? ⟨w.heap.size, 2, none⟩ = some (.slice (some ⟨eb, eo, none⟩) g.edges.length c2) := (XG.out.keep ((hC.2.1 h10).block _ XG.out.lt NG.out)).cell rfl
            have d0 : ρ (.tmp 33) = .pointer (some ⟨w.heap.size, 2, none⟩) := hdep 2 33 (by kernel_rfl) (by kernel_rfl)
            simp [go_sem, d0, cc]
            exact ⟨Below.refl _ _, rfl⟩
          | 4, _, ho, hf, hg, hfr, hdep =>
            simp only [gTA, gCZ, gCS, gSI] at ho
            subst ho
            refine ⟨fun _ => ?_, fun hw => absurd (show true = false from hw) (by decide)⟩
            have ts : ρ (.tmp 4) = .int .i64 (k : Int) := hfr 4 (by kernel_rfl)
            simp [go_sem, ts]
            exact ⟨Below.refl _ _, rfl⟩
          | 5, _, ho, hf, hg, hfr, hdep =>
            simp only [gTA, gCZ, gCS, gSI] at ho
            subst ho
            refine ⟨fun _ => ?_, fun hw => absurd (show true = false from hw) (by decide)⟩
            have d0 : ρ (.tmp 34) = .slice (some ⟨eb, eo, none⟩) g.edges.length c2 := hdep 3 34 (by kernel_rfl) (by kernel_rfl)
            have d1 : ρ (.tmp 35) = .int .i64 (k : Int) := hdep 4 35 (by kernel_rfl) (by kernel_rfl)
            simp [go_sem, d0, d1, hkl]
            exact ⟨Below.refl _ _, rfl⟩
          | 6, _, ho, hf, hg, hfr, hdep =>
            simp only [gTA, gCZ, gCS, gSI] at ho
            subst ho
            refine ⟨fun _ => ?_, fun hw => absurd (show true = false from hw) (by decide)⟩
            have h10 : d_ 10 = false := hf 10 (by decide) (by kernel_rfl)
            have q0 := cell_chg (hC.2.1 h10) NE.out e0
            have q1 := cell_chg (hC.2.1 h10) NE.out e1
            have q2 := cell_chg (hC.2.1 h10) NE.out e2
            have q3 := cell_chg (hC.2.1 h10) NE.out e3
            have q4 := cell_chg (hC.2.1 h10) NE.out e4
            have d0 : ρ (.tmp 36) = .pointer (some ⟨eb, eo + k * 5, none⟩) := hdep 5 36 (by kernel_rfl) (by kernel_rfl)
            simp [go_sem, d0, q0, q1, q2, q3, q4]
            exact ⟨Below.refl _ _, rfl⟩
          | 7, _, ho, hf, hg, hfr, hdep =>
            simp only [gTA, gCZ, gCS, gSI] at ho
            subst ho
            refine ⟨fun _ => ?_, fun hw => absurd (show true = false from hw) (by decide)⟩
            have t0 : ρ (.tmp 37) = .agg #[.int .i64 ed.f, .int .i64 ed.fp, .int .i64 ed.t, .int .i64 ed.tp, .slice xs ed.start.length cx] := hdep 6 37 (by kernel_rfl) (by kernel_rfl)
            have h8 : d_ 8 = false := hf 8 (by decide) (by kernel_rfl)
            simp [go_sem, t0]
            exact ⟨(Below.refl _ _).alloc (Nat.le_refl _) _, fun _ => elC_new (fun _ _ _ h _ => h) 54 (es := eP (ed, .slice xs ed.start.length cx)) rfl (hC.1 h8).size⟩
          | 8, hm, _, _, _, _, _ => exact absurd hm (by decide)
          | 9, _, ho, hf, hg, hfr, hdep =>
            simp only [gTA, gCZ, gCS, gSI] at ho
            subst ho
            refine ⟨fun _ => ?_, fun hw => absurd (show true = false from hw) (by decide)⟩
            have ts : ρ (.tmp 3) = .pointer (some ⟨hb, 0, none⟩) := hfr 3 (by kernel_rfl)
            simp [go_sem, ts]
            exact ⟨Below.refl _ _, rfl⟩
          | 10, hm, _, _, _, _, _ => exact absurd hm (by decide)
          | n + 11, _, ho, _, _, _, _ => simp at ho
        · intro d_ i o ρ w' hm ho h0 hf hg hC hcs hfs hfr hdep
          match i, hm, ho, h0, hf, hg, hfr, hdep with
          | 0, hm, _, _, _, _, _, _ => exact absurd hm (by decide)
          | 1, hm, _, _, _, _, _, _ => exact absurd hm (by decide)
          | 2, hm, _, _, _, _, _, _ => exact absurd hm (by decide)
          | 3, hm, _, _, _, _, _, _ => exact absurd hm (by decide)
          | 4, hm, _, _, _, _, _, _ => exact absurd hm (by decide)
          | 5, hm, _, _, _, _, _, _ => exact absurd hm (by decide)
          | 6, hm, _, _, _, _, _, _ => exact absurd hm (by decide)
          | 7, hm, _, _, _, _, _, _ => exact absurd hm (by decide)
          | 8, _, ho, h0, hf, hg, hfr, hdep =>
            simp only [gTA, gCZ, gCS, gSI] at ho
            subst ho
            have t0 : ρ (.tmp 32) = .slice d M.length kk := hdep 1 32 (by kernel_rfl) (by kernel_rfl)
            have t5 : ElC (fun _ es => es = eP (ed, .slice xs ed.start.length cx)) wr w' (ρ (.tmp 38)) := hdep 7 38 (by kernel_rfl) (by kernel_rfl) h0
            have h10 : d_ 10 = false := hf 10 (by decide) (by kernel_rfl)
            refine ⟨rfl, mark_appE (.tmp 32) (.tmp 38) 28 54 i0 _ 5 56 rfl Try.underlying28 hi hz0 hz1 hz2 rfl (by decide) t0 rfl FX.out.row (hC.1 h0) (fun _ _ h => by subst h; exact ⟨rfl, eP_one ed xs _ cx⟩) t5 LB.out (by omega) (by omega) ?_⟩
            intro u9 v9 hG
            refine ⟨⟨fun e => absurd e (by rw [doneO_eq]; decide), fun _ => hG.chg, fun e => absurd ((doneO_ne d_ (by decide)).symm.trans e) (by rw [h10]; decide)⟩, fun _ => ⟨doneO_eq _ _, fun _ => hG⟩, ?_⟩
            intro j t hj hs
            match j, hs with
            | 0, hs => exact hs
            | 1, hs => exact hs
            | 2, hs => exact hs
            | 3, hs => exact hs
            | 4, hs => exact hs
            | 5, hs => exact hs
            | 6, hs => exact hs
            | 7, hs => exact fun e => absurd e (by rw [doneO_eq]; decide)
            | 8, hs => exact absurd hs.1 (by rw [h0]; decide)
            | 9, hs => exact hs
            | 10, _ => trivial
            | _ + 11, _ => trivial
          | 9, hm, _, _, _, _, _, _ => exact absurd hm (by decide)
          | 10, _, ho, h0, hf, hg, hfr, hdep =>
            simp only [gTA, gCZ, gCS, gSI] at ho
            subst ho
            have t0 : ρ (.tmp 40) = .pointer (some ⟨hb, 2, none⟩) := hdep 9 40 (by kernel_rfl) (by kernel_rfl)
            have t9 : d_ 8 = true ∧ (d_ 10 = false → ElA (fun _ es => es = eP (ed, .slice xs ed.start.length cx)) wr V5.heap.size 54 5 (.slice d M.length kk) M.length (M.flatMap eP) w' (ρ (.tmp 39))) := hdep 8 39 (by kernel_rfl) (by kernel_rfl)
            have hG := t9.2 h0
            obtain ⟨gz, cz, e9⟩ := hG.shape
            rw [e9] at hG
            have hF := appE_store (f := 2) hG FX.out.blk FX.out.far
            have c1_ : w'.cell? ⟨hb, 2, none⟩ = some (.slice d M.length kk) := hF.2.cell rfl
            have f1 := hF.2.frozen 2
            refine ⟨rfl, markUpon_skip (w' := w'.setCell ⟨hb, 2, none⟩ (.slice (some ⟨gz, 0, none⟩) (M.length + 1) cz)) (by simp [go_sem, t0, e9, c1_, f1]) ?_⟩
            refine ⟨⟨fun e => absurd ((doneO_ne d_ (by decide)).symm.trans e) (by rw [t9.1]; decide), fun e => absurd e (by rw [doneO_eq]; decide), fun _ => hF.1⟩, fun h => absurd rfl h, ?_⟩
            intro j t hj hs
            match j, hs with
            | 0, hs => exact hs
            | 1, hs => exact hs
            | 2, hs => exact hs
            | 3, hs => exact hs
            | 4, hs => exact hs
            | 5, hs => exact hs
            | 6, hs => exact hs
            | 7, hs => exact fun e => absurd ((doneO_ne d_ (by decide)).symm.trans e) (by rw [t9.1]; decide)
            | 8, hs => exact ⟨(doneO_ne d_ (by decide)).trans hs.1, fun e => absurd e (by rw [doneO_eq]; decide)⟩
            | 9, hs => exact hs
            | 10, _ => trivial
            | _ + 11, _ => trivial
          | n + 11, _, ho, _, _, _, _, _ => simp at ho
        · intro U8 V8x hC8 hS
          simp only [puts, put_none]
          simp only [Act.put, List.setIfInBounds_toArray, List.set_cons_zero, List.set_cons_succ]
          clear hS 
          obtain ⟨g9, k9, F9⟩ := FX.out.step (hC8.2.2 rfl)
          have F9h := hiddenG F9
          clear hC8 F9 FX XG
          go_wp2
          go_roundg k
          case measure => omega
          case rel =>
            refine ⟨k, (k : Int) - 1, some ⟨g9, 0, none⟩, k9, M ++ [(ed, .slice xs ed.start.length cx)], by omega, rfl, by first | rfl | go_num, rfl, ?_, ?_, ?_⟩
            · rw [List.map_append, HM.out, RD.out]; rfl
            · intro p hp
              rcases List.mem_append.1 hp with h | h
              · exact HMS.out p h
              · rw [List.mem_singleton.1 h]; exact HST.out
            · rw [List.length_append, List.flatMap_append, List.flatMap_singleton]
              exact F9h.out
      | zero =>
        have hz' : zz = -1 := by omega
        subst hz'
        clear hzz
        rw [List.drop_zero] at HM
        have hMl : M.length = g.edges.length := by
          have := congrArg List.length HM.out
          simpa using this
        rw [hMl] at FX
        have BL3 := hiddenG (BL2.out.trans (FX.out.bel hwh))
        have XG3 := hiddenG (XG2.out.keep (FX.out.keep _ XG2.out.lt hgh))
        have KP2 := hiddenG FX.out.keep
        have SZ2 : Hid (V5.heap.size ≤ wr.heap.size) := FX.out.chg.size
        have BK2 := hiddenG FX.out.blk
        have HO2 := hiddenG FX.out.old
        have ROW2 := hiddenG FX.out.row
        have hcp2 := own_capO FX.out.row
        clear FX
        obtain ⟨d2, hd2⟩ : ∃ x, d = x := ⟨_, rfl⟩
        obtain ⟨k2, hk2⟩ : ∃ x, kk = x := ⟨_, rfl⟩
        rw [hd2, hk2] at BK2 ROW2
        rw [hk2] at hcp2
        clear hd2 hk2
        generalize wr = V6 at *
        have RW2 : Hid (∀ w', (∀ k, k < V6.heap.size → k ≠ hb → w'.heap[k]? = V6.heap[k]?) → Below w.heap.size w w' → GrE w' d2 g.edges.reverse) := fun w' hk hb' => by
          have r := rowE_gr (n := g.edges.length) (cp := k2) (As := M) (w := w') (B := V5.heap.size) (by rw [hMl]; exact ownR_keep ROW2.out fun k hk' => hk k (own_lt ROW2.out k hk') (by have := own_row ROW2.out k hk'; have := HO2.out; omega)) (fun p hp => by
            obtain ⟨x, c, h1, h2⟩ := HMS.out p hp
            exact ⟨x, c, h1, h2.below hb'⟩)
          rw [HM.out] at r
          exact r
        clear HM HMS M hMl ROW2 hq
        have FI0 := hiddenG (FilO.nil 56 3 BK2.out)
        have z0 := XG3.out.cell (k := 0) rfl
        have z1 := XG3.out.cell (k := 1) rfl
        have z2 := XG3.out.cell (k := 2) rfl
        have z3 := XG3.out.cell (k := 3) rfl
        have z4 := XG3.out.cell (k := 4) rfl
        simp only [List.getElem_toArray, List.getElem_cons_zero, List.getElem_cons_succ] at z0 z1 z2 z3 z4
        go_wp2
        clear z0 z1 z2 z3 z4
        go_loopg [5] g.ins.length (fun gk u wr => ∃ (q : Nat) (zz : Int) (d : Option Addr) (kk : Nat) (M : List GP), q ≤ g.ins.length ∧ gk = q ∧ u = .int .i64 zz ∧ zz = (q : Int) - 1 ∧ M = (g.ins.drop q).reverse ∧ True ∧ FilO V6 wr hb 56 3 #[.string (str g.name), .slice x1 g.actors.length d1, .slice d2 g.edges.length k2, .slice d M.length kk, .slice none 0 0] (.slice d M.length kk) M.length (M.flatMap pP))
        case atStart => exact ⟨g.ins.length, (g.ins.length : Int) - 1, none, 0, [], Nat.le_refl _, rfl, by first | rfl | go_num, rfl, by rw [List.drop_length]; rfl, trivial, FI0.out⟩
        case round =>
          clear FI0
          obtain ⟨q, zz, d, kk, M, hq, rfl, rfl, hzz, hM, hMs, hF⟩ := hrel
          have FX := hiddenG hF
          have HM := hiddenG hM
          have HMS := hiddenG hMs
          clear hF hM hMs
          cases gk with
          | succ k =>
            have hz' : zz = (k : Int) := by omega
            subst hz'
            clear hzz
            have hkl : k < g.ins.length := by omega
            have hkI : (k : Int) < (g.ins.length : Int) := by omega
            have hw1 : IntKind.i64.wrap ((k : Int) - 1) = (k : Int) - 1 := by rw [IntKind.wrap_i64]; omega
            have BW := hiddenG (BL3.out.trans (FX.out.bel hwh))
            have XG := hiddenG (XG3.out.keep (FX.out.keep _ XG3.out.lt hgh))
            have LB : Hid (V6.heap.size ≤ wr.heap.size) := FX.out.chg.size
            have hMl : M.length ≤ 96 := by
              have := congrArg List.length HM.out
              simp at this
              omega
            have RD := hiddenG (rev_dropP hkl)
            rcases HG0.out.I with e | ⟨eb, eo, ee, hce⟩
            · rw [e] at hkl; exact absurd hkl (Nat.not_lt_zero _)
            obtain ⟨f0, f1, f2⟩ := hce k hkl
            have fe0 := hiddenG f0
            have e0 := cellG BW.out f0
            have e1 := cellG BW.out f1
            have e2 := cellG BW.out f2
            clear f0 f1 f2 hce
            subst ee
            generalize nthP g.ins k = pt at *
            have heb := block_lt_of_cell fe0.out
            simp only at heb
            have hwl : w.heap.size < V6.heap.size := XG3.out.lt
            have NG : Hid ((.slice d M.length kk : Value).ownBlock ≠ some w.heap.size) := fun e => by have := own_row FX.out.row _ e; omega
            have NE : Hid (¬ (.slice d M.length kk : Value).ownBlock = some eb) := fun e => by have := own_row FX.out.row _ e; omega
            clear fe0
            obtain ⟨i0, hi, hz0, hz1, hz2⟩ := info_parts Try.infoPortO
            go_upto_region 13 with fail
            refine wp_region_gen [8, 10] (fun d_ i u z => match i with
                | 0 => z = .pointer (some ⟨hb, 3, none⟩)
                | 1 => z = .slice d M.length kk
                | 2 => z = .pointer (some ⟨w.heap.size, 3, none⟩)
                | 3 => z = .slice (some ⟨eb, eo, none⟩) g.ins.length c3
                | 4 => z = .int .i64 (k : Int)
                | 5 => z = .pointer (some ⟨eb, eo + k * 3, none⟩)
                | 6 => z = .agg #[.string (str pt.name), .int .i64 pt.actor, .int .i64 pt.port]
                | 7 => (d_ 8 = false → ElC (fun _ es => es = pP pt) wr u z)
                | 8 => (d_ 8 = true ∧ (d_ 10 = false → ElA (fun _ es => es = pP pt) wr V6.heap.size 56 3 (.slice d M.length kk) M.length (M.flatMap pP) u z))
                | 9 => z = .pointer (some ⟨hb, 3, none⟩)
                | 10 => True
                | _ => True) (fun d_ u => (d_ 8 = false → Below wr.heap.size wr u) ∧ (d_ 10 = false → Chg (fun k => (.slice d M.length kk : Value).ownBlock = some k) wr u) ∧ (d_ 10 = true → AppE (fun _ es => es = pP pt) wr V6.heap.size 56 3 (.slice d M.length kk) M.length (M.flatMap pP) 31 hb 3 #[.string (str g.name), .slice x1 g.actors.length d1, .slice d2 g.edges.length k2, .slice d M.length kk, .slice none 0 0] u)) (by kernel_rfl) (by kernel_rfl) (by kernel_rfl) ?_ ?_ ?_ ?_ ?_ ?_ (by kernel_rfl)
            · intro d_ i w_ v_ w' h hb_
              match i, h with
              | 0, h => exact h
              | 1, h => exact h
              | 2, h => exact h
              | 3, h => exact h
              | 4, h => exact h
              | 5, h => exact h
              | 6, h => exact h
              | 7, h => exact fun e => (h e).later (fun _ _ _ h _ => h) hb_
              | 8, h => exact ⟨h.1, fun e => (h.2 e).later hb_⟩
              | 9, h => exact h
              | 10, h => exact h
              | _ + 11, _ => trivial
            · intro d_ u u' h hb_
              exact ⟨fun e => (h.1 e).trans (hb_.mono (h.1 e).size), fun e => (h.2.1 e).trans' (Chg.of_below hb_), fun e => (h.2.2 e).later hb_⟩
            · exact ⟨fun _ => Below.refl _ _, fun _ => Chg.of_below (Below.refl _ _), fun e => absurd e (by decide)⟩
            · intro d_ i o ρ w' hm ho hf hg hC hcs hfs hfr hdep
              match i, hm, ho, hf, hg, hfr, hdep with
              | 0, _, ho, hf, hg, hfr, hdep =>
                simp only [gTA, gCZ, gSI] at ho
                subst ho
                refine ⟨fun _ => ?_, fun hw => absurd (show true = false from hw) (by decide)⟩
                have ts : ρ (.tmp 3) = .pointer (some ⟨hb, 0, none⟩) := hfr 3 (by kernel_rfl)
                simp [go_sem, ts]
                exact ⟨Below.refl _ _, rfl⟩
              | 1, _, ho, hf, hg, hfr, hdep =>
                simp only [gTA, gCZ, gCS, gSI] at ho
                subst ho
                refine ⟨fun _ => ?_, fun hw => absurd (show true = false from hw) (by decide)⟩
                have h8 : d_ 8 = false := hf 8 (by decide) (by kernel_rfl)
                have cc : w'.cell? ⟨hb, 3, none⟩ = some (.slice d M.length kk) := (FX.out.blk.below (hC.1 h8)).cell rfl
                have d0 : ρ (.tmp 49) = .pointer (some ⟨hb, 3, none⟩) := hdep 0 49 (by kernel_rfl) (by kernel_rfl)
                simp [go_sem, d0, cc]
                exact ⟨Below.refl _ _, rfl⟩
              | 2, _, ho, hf, hg, hfr, hdep =>
                simp only [gTA, gCZ, gCS, gSI] at ho
                subst ho
                refine ⟨fun _ => ?_, fun hw => absurd (show true = false from hw) (by decide)⟩
                have ts : ρ (.tmp 1) = .pointer (some ⟨w.heap.size, 0, none⟩) := hfr 1 (by kernel_rfl)
                simp [go_sem, ts]
                exact ⟨Below.refl _ _, rfl⟩
              | 3, _, ho, hf, hg, hfr, hdep =>
                simp only [gTA, gCZ, gCS, gSI] at ho
                subst ho
                refine ⟨fun _ => ?_, fun hw => absurd (show true = false from hw) (by decide)⟩
                have h10 : d_ 10 = false := hf 10 (by decide) (by kernel_rfl)
                have cc : w'.cell? ⟨w.heap.size, 3, none⟩ = some (.slice (some ⟨eb, eo, none⟩) g.ins.length c3) := (XG.out.keep ((hC.2.1 h10).block _ XG.out.lt NG.out)).cell rfl
                have d0 : ρ (.tmp 51) = .pointer (some ⟨w.heap.size, 3, none⟩) := hdep 2 51 (by kernel_rfl) (by kernel_rfl)
                simp [go_sem, d0, cc]
                exact ⟨Below.refl _ _, rfl⟩
              | 4, _, ho, hf, hg, hfr, hdep =>
                simp only [gTA, gCZ, gCS, gSI] at ho
                subst ho
                refine ⟨fun _ => ?_, fun hw => absurd (show true = false from hw) (by decide)⟩
                have ts : ρ (.tmp 5) = .int .i64 (k : Int) := hfr 5 (by kernel_rfl)
                simp [go_sem, ts]
                exact ⟨Below.refl _ _, rfl⟩
              | 5, _, ho, hf, hg, hfr, hdep =>
                simp only [gTA, gCZ, gCS, gSI] at ho
                subst ho
                refine ⟨fun _ => ?_, fun hw => absurd (show true = false from hw) (by decide)⟩
                have d0 : ρ (.tmp 52) = .slice (some ⟨eb, eo, none⟩) g.ins.length c3 := hdep 3 52 (by kernel_rfl) (by kernel_rfl)
                have d1 : ρ (.tmp 53) = .int .i64 (k : Int) := hdep 4 53 (by kernel_rfl) (by kernel_rfl)
                simp [go_sem, d0, d1, hkl]
                exact ⟨Below.refl _ _, rfl⟩
              | 6, _, ho, hf, hg, hfr, hdep =>
                simp only [gTA, gCZ, gCS, gSI] at ho
                subst ho
                refine ⟨fun _ => ?_, fun hw => absurd (show true = false from hw) (by decide)⟩
                have h10 : d_ 10 = false := hf 10 (by decide) (by kernel_rfl)
                have q0 := cell_chg (hC.2.1 h10) NE.out e0
                have q1 := cell_chg (hC.2.1 h10) NE.out e1
                have q2 := cell_chg (hC.2.1 h10) NE.out e2
                have d0 : ρ (.tmp 54) = .pointer (some ⟨eb, eo + k * 3, none⟩) := hdep 5 54 (by kernel_rfl) (by kernel_rfl)
                simp [go_sem, d0, q0, q1, q2]
                exact ⟨Below.refl _ _, rfl⟩
              | 7, _, ho, hf, hg, hfr, hdep =>
                simp only [gTA, gCZ, gCS, gSI] at ho
                subst ho
                refine ⟨fun _ => ?_, fun hw => absurd (show true = false from hw) (by decide)⟩
                have t0 : ρ (.tmp 55) = .agg #[.string (str pt.name), .int .i64 pt.actor, .int .i64 pt.port] := hdep 6 55 (by kernel_rfl) (by kernel_rfl)
                have h8 : d_ 8 = false := hf 8 (by decide) (by kernel_rfl)
                simp [go_sem, t0]
                exact ⟨(Below.refl _ _).alloc (Nat.le_refl _) _, fun _ => elC_new (fun _ _ _ h _ => h) 56 (es := pP pt) rfl (hC.1 h8).size⟩
              | 8, hm, _, _, _, _, _ => exact absurd hm (by decide)
              | 9, _, ho, hf, hg, hfr, hdep =>
                simp only [gTA, gCZ, gCS, gSI] at ho
                subst ho
                refine ⟨fun _ => ?_, fun hw => absurd (show true = false from hw) (by decide)⟩
                have ts : ρ (.tmp 3) = .pointer (some ⟨hb, 0, none⟩) := hfr 3 (by kernel_rfl)
                simp [go_sem, ts]
                exact ⟨Below.refl _ _, rfl⟩
              | 10, hm, _, _, _, _, _ => exact absurd hm (by decide)
              | n + 11, _, ho, _, _, _, _ => simp at ho
            · intro d_ i o ρ w' hm ho h0 hf hg hC hcs hfs hfr hdep
              match i, hm, ho, h0, hf, hg, hfr, hdep with
              | 0, hm, _, _, _, _, _, _ => exact absurd hm (by decide)
              | 1, hm, _, _, _, _, _, _ => exact absurd hm (by decide)
              | 2, hm, _, _, _, _, _, _ => exact absurd hm (by decide)
              | 3, hm, _, _, _, _, _, _ => exact absurd hm (by decide)
              | 4, hm, _, _, _, _, _, _ => exact absurd hm (by decide)
              | 5, hm, _, _, _, _, _, _ => exact absurd hm (by decide)
              | 6, hm, _, _, _, _, _, _ => exact absurd hm (by decide)
              | 7, hm, _, _, _, _, _, _ => exact absurd hm (by decide)
              | 8, _, ho, h0, hf, hg, hfr, hdep =>
                simp only [gTA, gCZ, gCS, gSI] at ho
                subst ho
                have t0 : ρ (.tmp 50) = .slice d M.length kk := hdep 1 50 (by kernel_rfl) (by kernel_rfl)
                have t5 : ElC (fun _ es => es = pP pt) wr w' (ρ (.tmp 56)) := hdep 7 56 (by kernel_rfl) (by kernel_rfl) h0
                have h10 : d_ 10 = false := hf 10 (by decide) (by kernel_rfl)
                refine ⟨rfl, mark_appE (.tmp 50) (.tmp 56) 29 56 i0 _ 3 32 rfl Try.underlying29 hi hz0 hz1 hz2 rfl (by decide) t0 rfl FX.out.row (hC.1 h0) (fun _ _ h => by subst h; exact ⟨rfl, pP_one pt⟩) t5 LB.out (by omega) (by omega) ?_⟩
                intro u9 v9 hG
                refine ⟨⟨fun e => absurd e (by rw [doneO_eq]; decide), fun _ => hG.chg, fun e => absurd ((doneO_ne d_ (by decide)).symm.trans e) (by rw [h10]; decide)⟩, fun _ => ⟨doneO_eq _ _, fun _ => hG⟩, ?_⟩
                intro j t hj hs
                match j, hs with
                | 0, hs => exact hs
                | 1, hs => exact hs
                | 2, hs => exact hs
                | 3, hs => exact hs
                | 4, hs => exact hs
                | 5, hs => exact hs
                | 6, hs => exact hs
                | 7, hs => exact fun e => absurd e (by rw [doneO_eq]; decide)
                | 8, hs => exact absurd hs.1 (by rw [h0]; decide)
                | 9, hs => exact hs
                | 10, _ => trivial
                | _ + 11, _ => trivial
              | 9, hm, _, _, _, _, _, _ => exact absurd hm (by decide)
              | 10, _, ho, h0, hf, hg, hfr, hdep =>
                simp only [gTA, gCZ, gCS, gSI] at ho
                subst ho
                have t0 : ρ (.tmp 58) = .pointer (some ⟨hb, 3, none⟩) := hdep 9 58 (by kernel_rfl) (by kernel_rfl)
                have t9 : d_ 8 = true ∧ (d_ 10 = false → ElA (fun _ es => es = pP pt) wr V6.heap.size 56 3 (.slice d M.length kk) M.length (M.flatMap pP) w' (ρ (.tmp 57))) := hdep 8 57 (by kernel_rfl) (by kernel_rfl)
                have hG := t9.2 h0
                obtain ⟨gz, cz, e9⟩ := hG.shape
                rw [e9] at hG
                have hF := appE_store (f := 3) hG FX.out.blk FX.out.far
                have c1_ : w'.cell? ⟨hb, 3, none⟩ = some (.slice d M.length kk) := hF.2.cell rfl
                have f1 := hF.2.frozen 3
                refine ⟨rfl, markUpon_skip (w' := w'.setCell ⟨hb, 3, none⟩ (.slice (some ⟨gz, 0, none⟩) (M.length + 1) cz)) (by simp [go_sem, t0, e9, c1_, f1]) ?_⟩
                refine ⟨⟨fun e => absurd ((doneO_ne d_ (by decide)).symm.trans e) (by rw [t9.1]; decide), fun e => absurd e (by rw [doneO_eq]; decide), fun _ => hF.1⟩, fun h => absurd rfl h, ?_⟩
                intro j t hj hs
                match j, hs with
                | 0, hs => exact hs
                | 1, hs => exact hs
                | 2, hs => exact hs
                | 3, hs => exact hs
                | 4, hs => exact hs
                | 5, hs => exact hs
                | 6, hs => exact hs
                | 7, hs => exact fun e => absurd ((doneO_ne d_ (by decide)).symm.trans e) (by rw [t9.1]; decide)
                | 8, hs => exact ⟨(doneO_ne d_ (by decide)).trans hs.1, fun e => absurd e (by rw [doneO_eq]; decide)⟩
                | 9, hs => exact hs
                | 10, _ => trivial
                | _ + 11, _ => trivial
              | n + 11, _, ho, _, _, _, _, _ => simp at ho
            · intro U8 V8x hC8 hS
              simp only [puts, put_none]
              simp only [Act.put, List.setIfInBounds_toArray, List.set_cons_zero, List.set_cons_succ]
              clear hS 
              obtain ⟨g9, k9, F9⟩ := FX.out.step (hC8.2.2 rfl)
              have F9h := hiddenG F9
              clear hC8 F9 FX XG
              go_wp2
              go_roundg k
              case measure => omega
              case rel =>
                refine ⟨k, (k : Int) - 1, some ⟨g9, 0, none⟩, k9, M ++ [pt], by omega, rfl, by first | rfl | go_num, rfl, ?_, trivial, ?_⟩
                · rw [HM.out, RD.out]
                · rw [List.length_append, List.flatMap_append, List.flatMap_singleton]
                  exact F9h.out
          | zero =>
            have hz' : zz = -1 := by omega
            subst hz'
            clear hzz
            rw [List.drop_zero] at HM
            have hMl : M.length = g.ins.length := by
              have := congrArg List.length HM.out
              simpa using this
            rw [hMl] at FX
            have BL4 := hiddenG (BL3.out.trans (FX.out.bel hwh))
            have XG4 := hiddenG (XG3.out.keep (FX.out.keep _ XG3.out.lt hgh))
            have KP3 := hiddenG FX.out.keep
            have SZ3 : Hid (V6.heap.size ≤ wr.heap.size) := FX.out.chg.size
            have BK3 := hiddenG FX.out.blk
            have HO3 := hiddenG FX.out.old
            have ROW3 := hiddenG FX.out.row
            have hcp3 := own_capO FX.out.row
            clear FX
            obtain ⟨d3, hd3⟩ : ∃ x, d = x := ⟨_, rfl⟩
            obtain ⟨k3, hk3⟩ : ∃ x, kk = x := ⟨_, rfl⟩
            rw [hd3, hk3] at BK3 ROW3
            rw [hk3] at hcp3
            clear hd3 hk3
            generalize wr = V7 at *
            have RW3 : Hid (∀ w', (∀ k, k < V7.heap.size → k ≠ hb → w'.heap[k]? = V7.heap[k]?) → AtPt w' d3 g.ins.reverse) := fun w' hk => by
              have r := rowP_at (n := g.ins.length) (cp := k3) (As := M) (w := w') (B := V6.heap.size) (by rw [hMl]; exact ownR_keep ROW3.out fun k hk' => hk k (own_lt ROW3.out k hk') (by have := own_row ROW3.out k hk'; have := HO3.out; omega))
              rw [HM.out] at r
              exact r
            clear HM HMS M hMl ROW3 hq
            have FI0 := hiddenG (FilO.nil 56 3 BK3.out)
            have z0 := XG4.out.cell (k := 0) rfl
            have z1 := XG4.out.cell (k := 1) rfl
            have z2 := XG4.out.cell (k := 2) rfl
            have z3 := XG4.out.cell (k := 3) rfl
            have z4 := XG4.out.cell (k := 4) rfl
            simp only [List.getElem_toArray, List.getElem_cons_zero, List.getElem_cons_succ] at z0 z1 z2 z3 z4
            go_wp2
            clear z0 z1 z2 z3 z4
            go_loopg [6] g.outs.length (fun gk u wr => ∃ (q : Nat) (zz : Int) (d : Option Addr) (kk : Nat) (M : List GP), q ≤ g.outs.length ∧ gk = q ∧ u = .int .i64 zz ∧ zz = (q : Int) - 1 ∧ M = (g.outs.drop q).reverse ∧ True ∧ FilO V7 wr hb 56 3 #[.string (str g.name), .slice x1 g.actors.length d1, .slice d2 g.edges.length k2, .slice d3 g.ins.length k3, .slice d M.length kk] (.slice d M.length kk) M.length (M.flatMap pP))
            case atStart => exact ⟨g.outs.length, (g.outs.length : Int) - 1, none, 0, [], Nat.le_refl _, rfl, by first | rfl | go_num, rfl, by rw [List.drop_length]; rfl, trivial, FI0.out⟩
            case round =>
              clear FI0
              obtain ⟨q, zz, d, kk, M, hq, rfl, rfl, hzz, hM, hMs, hF⟩ := hrel
              have FX := hiddenG hF
              have HM := hiddenG hM
              have HMS := hiddenG hMs
              clear hF hM hMs
              cases gk with
              | succ k =>
                have hz' : zz = (k : Int) := by omega
                subst hz'
                clear hzz
                have hkl : k < g.outs.length := by omega
                have hkI : (k : Int) < (g.outs.length : Int) := by omega
                have hw1 : IntKind.i64.wrap ((k : Int) - 1) = (k : Int) - 1 := by rw [IntKind.wrap_i64]; omega
                have BW := hiddenG (BL4.out.trans (FX.out.bel hwh))
                have XG := hiddenG (XG4.out.keep (FX.out.keep _ XG4.out.lt hgh))
                have LB : Hid (V7.heap.size ≤ wr.heap.size) := FX.out.chg.size
                have hMl : M.length ≤ 96 := by
                  have := congrArg List.length HM.out
                  simp at this
                  omega
                have RD := hiddenG (rev_dropP hkl)
                rcases HG0.out.O with e | ⟨eb, eo, ee, hce⟩
                · rw [e] at hkl; exact absurd hkl (Nat.not_lt_zero _)
                obtain ⟨f0, f1, f2⟩ := hce k hkl
                have fe0 := hiddenG f0
                have e0 := cellG BW.out f0
                have e1 := cellG BW.out f1
                have e2 := cellG BW.out f2
                clear f0 f1 f2 hce
                subst ee
                generalize nthP g.outs k = pt at *
                have heb := block_lt_of_cell fe0.out
                simp only at heb
                have hwl : w.heap.size < V7.heap.size := XG4.out.lt
                have NG : Hid ((.slice d M.length kk : Value).ownBlock ≠ some w.heap.size) := fun e => by have := own_row FX.out.row _ e; omega
                have NE : Hid (¬ (.slice d M.length kk : Value).ownBlock = some eb) := fun e => by have := own_row FX.out.row _ e; omega
                clear fe0
                obtain ⟨i0, hi, hz0, hz1, hz2⟩ := info_parts Try.infoPortO
                go_upto_region 17 with fail
                refine wp_region_gen [8, 10] (fun d_ i u z => match i with
                    | 0 => z = .pointer (some ⟨hb, 4, none⟩)
                    | 1 => z = .slice d M.length kk
                    | 2 => z = .pointer (some ⟨w.heap.size, 4, none⟩)
                    | 3 => z = .slice (some ⟨eb, eo, none⟩) g.outs.length c4
                    | 4 => z = .int .i64 (k : Int)
                    | 5 => z = .pointer (some ⟨eb, eo + k * 3, none⟩)
                    | 6 => z = .agg #[.string (str pt.name), .int .i64 pt.actor, .int .i64 pt.port]
                    | 7 => (d_ 8 = false → ElC (fun _ es => es = pP pt) wr u z)
                    | 8 => (d_ 8 = true ∧ (d_ 10 = false → ElA (fun _ es => es = pP pt) wr V7.heap.size 56 3 (.slice d M.length kk) M.length (M.flatMap pP) u z))
                    | 9 => z = .pointer (some ⟨hb, 4, none⟩)
                    | 10 => True
                    | _ => True) (fun d_ u => (d_ 8 = false → Below wr.heap.size wr u) ∧ (d_ 10 = false → Chg (fun k => (.slice d M.length kk : Value).ownBlock = some k) wr u) ∧ (d_ 10 = true → AppE (fun _ es => es = pP pt) wr V7.heap.size 56 3 (.slice d M.length kk) M.length (M.flatMap pP) 31 hb 4 #[.string (str g.name), .slice x1 g.actors.length d1, .slice d2 g.edges.length k2, .slice d3 g.ins.length k3, .slice d M.length kk] u)) (by kernel_rfl) (by kernel_rfl) (by kernel_rfl) ?_ ?_ ?_ ?_ ?_ ?_ (by kernel_rfl)
                · intro d_ i w_ v_ w' h hb_
                  match i, h with
                  | 0, h => exact h
                  | 1, h => exact h
                  | 2, h => exact h
                  | 3, h => exact h
                  | 4, h => exact h
                  | 5, h => exact h
                  | 6, h => exact h
                  | 7, h => exact fun e => (h e).later (fun _ _ _ h _ => h) hb_
                  | 8, h => exact ⟨h.1, fun e => (h.2 e).later hb_⟩
                  | 9, h => exact h
                  | 10, h => exact h
                  | _ + 11, _ => trivial
                · intro d_ u u' h hb_
                  exact ⟨fun e => (h.1 e).trans (hb_.mono (h.1 e).size), fun e => (h.2.1 e).trans' (Chg.of_below hb_), fun e => (h.2.2 e).later hb_⟩
                · exact ⟨fun _ => Below.refl _ _, fun _ => Chg.of_below (Below.refl _ _), fun e => absurd e (by decide)⟩
                · intro d_ i o ρ w' hm ho hf hg hC hcs hfs hfr hdep
                  match i, hm, ho, hf, hg, hfr, hdep with
                  | 0, _, ho, hf, hg, hfr, hdep =>
                    simp only [gTA, gCZ, gSI] at ho
                    subst ho
                    refine ⟨fun _ => ?_, fun hw => absurd (show true = false from hw) (by decide)⟩
                    have ts : ρ (.tmp 3) = .pointer (some ⟨hb, 0, none⟩) := hfr 3 (by kernel_rfl)
                    simp [go_sem, ts]
                    exact ⟨Below.refl _ _, rfl⟩
                  | 1, _, ho, hf, hg, hfr, hdep =>
                    simp only [gTA, gCZ, gCS, gSI] at ho
                    subst ho
                    refine ⟨fun _ => ?_, fun hw => absurd (show true = false from hw) (by decide)⟩
                    have h8 : d_ 8 = false := hf 8 (by decide) (by kernel_rfl)
                    have cc : w'.cell? ⟨hb, 4, none⟩ = some (.slice d M.length kk) := (FX.out.blk.below (hC.1 h8)).cell rfl
                    have d0 : ρ (.tmp 67) = .pointer (some ⟨hb, 4, none⟩) := hdep 0 67 (by kernel_rfl) (by kernel_rfl)
                    simp [go_sem, d0, cc]
                    exact ⟨Below.refl _ _, rfl⟩
                  | 2, _, ho, hf, hg, hfr, hdep =>
                    simp only [gTA, gCZ, gCS, gSI] at ho
                    subst ho
                    refine ⟨fun _ => ?_, fun hw => absurd (show true = false from hw) (by decide)⟩
                    have ts : ρ (.tmp 1) = .pointer (some ⟨w.heap.size, 0, none⟩) := hfr 1 (by kernel_rfl)
                    simp [go_sem, ts]
                    exact ⟨Below.refl _ _, rfl⟩
                  | 3, _, ho, hf, hg, hfr, hdep =>
                    simp only [gTA, gCZ, gCS, gSI] at ho
                    subst ho
                    refine ⟨fun _ => ?_, fun hw => absurd (show true = false from hw) (by decide)⟩
                    have h10 : d_ 10 = false := hf 10 (by decide) (by kernel_rfl)
                    have cc : w'.cell? ⟨w.heap.size, 4, none⟩ = some (.slice (some ⟨eb, eo, none⟩) g.outs.length c4) := (XG.out.keep ((hC.2.1 h10).block _ XG.out.lt NG.out)).cell rfl
                    have d0 : ρ (.tmp 69) = .pointer (some ⟨w.heap.size, 4, none⟩) := hdep 2 69 (by kernel_rfl) (by kernel_rfl)
                    simp [go_sem, d0, cc]
                    exact ⟨Below.refl _ _, rfl⟩
                  | 4, _, ho, hf, hg, hfr, hdep =>
                    simp only [gTA, gCZ, gCS, gSI] at ho
                    subst ho
                    refine ⟨fun _ => ?_, fun hw => absurd (show true = false from hw) (by decide)⟩
                    have ts : ρ (.tmp 6) = .int .i64 (k : Int) := hfr 6 (by kernel_rfl)
                    simp [go_sem, ts]
                    exact ⟨Below.refl _ _, rfl⟩
                  | 5, _, ho, hf, hg, hfr, hdep =>
                    simp only [gTA, gCZ, gCS, gSI] at ho
                    subst ho
                    refine ⟨fun _ => ?_, fun hw => absurd (show true = false from hw) (by decide)⟩
                    have d0 : ρ (.tmp 70) = .slice (some ⟨eb, eo, none⟩) g.outs.length c4 := hdep 3 70 (by kernel_rfl) (by kernel_rfl)
                    have d1 : ρ (.tmp 71) = .int .i64 (k : Int) := hdep 4 71 (by kernel_rfl) (by kernel_rfl)
                    simp [go_sem, d0, d1, hkl]
                    exact ⟨Below.refl _ _, rfl⟩
                  | 6, _, ho, hf, hg, hfr, hdep =>
                    simp only [gTA, gCZ, gCS, gSI] at ho
                    subst ho
                    refine ⟨fun _ => ?_, fun hw => absurd (show true = false from hw) (by decide)⟩
                    have h10 : d_ 10 = false := hf 10 (by decide) (by kernel_rfl)
                    have q0 := cell_chg (hC.2.1 h10) NE.out e0
                    have q1 := cell_chg (hC.2.1 h10) NE.out e1
                    have q2 := cell_chg (hC.2.1 h10) NE.out e2
                    have d0 : ρ (.tmp 72) = .pointer (some ⟨eb, eo + k * 3, none⟩) := hdep 5 72 (by kernel_rfl) (by kernel_rfl)
                    simp [go_sem, d0, q0, q1, q2]
                    exact ⟨Below.refl _ _, rfl⟩
                  | 7, _, ho, hf, hg, hfr, hdep =>
                    simp only [gTA, gCZ, gCS, gSI] at ho
                    subst ho
                    refine ⟨fun _ => ?_, fun hw => absurd (show true = false from hw) (by decide)⟩
                    have t0 : ρ (.tmp 73) = .agg #[.string (str pt.name), .int .i64 pt.actor, .int .i64 pt.port] := hdep 6 73 (by kernel_rfl) (by kernel_rfl)
                    have h8 : d_ 8 = false := hf 8 (by decide) (by kernel_rfl)
                    simp [go_sem, t0]
                    exact ⟨(Below.refl _ _).alloc (Nat.le_refl _) _, fun _ => elC_new (fun _ _ _ h _ => h) 56 (es := pP pt) rfl (hC.1 h8).size⟩
                  | 8, hm, _, _, _, _, _ => exact absurd hm (by decide)
                  | 9, _, ho, hf, hg, hfr, hdep =>
                    simp only [gTA, gCZ, gCS, gSI] at ho
                    subst ho
                    refine ⟨fun _ => ?_, fun hw => absurd (show true = false from hw) (by decide)⟩
                    have ts : ρ (.tmp 3) = .pointer (some ⟨hb, 0, none⟩) := hfr 3 (by kernel_rfl)
                    simp [go_sem, ts]
                    exact ⟨Below.refl _ _, rfl⟩
                  | 10, hm, _, _, _, _, _ => exact absurd hm (by decide)
                  | n + 11, _, ho, _, _, _, _ => simp at ho
                · intro d_ i o ρ w' hm ho h0 hf hg hC hcs hfs hfr hdep
                  match i, hm, ho, h0, hf, hg, hfr, hdep with
                  | 0, hm, _, _, _, _, _, _ => exact absurd hm (by decide)
                  | 1, hm, _, _, _, _, _, _ => exact absurd hm (by decide)
                  | 2, hm, _, _, _, _, _, _ => exact absurd hm (by decide)
                  | 3, hm, _, _, _, _, _, _ => exact absurd hm (by decide)
                  | 4, hm, _, _, _, _, _, _ => exact absurd hm (by decide)
                  | 5, hm, _, _, _, _, _, _ => exact absurd hm (by decide)
                  | 6, hm, _, _, _, _, _, _ => exact absurd hm (by decide)
                  | 7, hm, _, _, _, _, _, _ => exact absurd hm (by decide)
                  | 8, _, ho, h0, hf, hg, hfr, hdep =>
                    simp only [gTA, gCZ, gCS, gSI] at ho
                    subst ho
                    have t0 : ρ (.tmp 68) = .slice d M.length kk := hdep 1 68 (by kernel_rfl) (by kernel_rfl)
                    have t5 : ElC (fun _ es => es = pP pt) wr w' (ρ (.tmp 74)) := hdep 7 74 (by kernel_rfl) (by kernel_rfl) h0
                    have h10 : d_ 10 = false := hf 10 (by decide) (by kernel_rfl)
                    refine ⟨rfl, mark_appE (.tmp 68) (.tmp 74) 29 56 i0 _ 3 32 rfl Try.underlying29 hi hz0 hz1 hz2 rfl (by decide) t0 rfl FX.out.row (hC.1 h0) (fun _ _ h => by subst h; exact ⟨rfl, pP_one pt⟩) t5 LB.out (by omega) (by omega) ?_⟩
                    intro u9 v9 hG
                    refine ⟨⟨fun e => absurd e (by rw [doneO_eq]; decide), fun _ => hG.chg, fun e => absurd ((doneO_ne d_ (by decide)).symm.trans e) (by rw [h10]; decide)⟩, fun _ => ⟨doneO_eq _ _, fun _ => hG⟩, ?_⟩
                    intro j t hj hs
                    match j, hs with
                    | 0, hs => exact hs
                    | 1, hs => exact hs
                    | 2, hs => exact hs
                    | 3, hs => exact hs
                    | 4, hs => exact hs
                    | 5, hs => exact hs
                    | 6, hs => exact hs
                    | 7, hs => exact fun e => absurd e (by rw [doneO_eq]; decide)
                    | 8, hs => exact absurd hs.1 (by rw [h0]; decide)
                    | 9, hs => exact hs
                    | 10, _ => trivial
                    | _ + 11, _ => trivial
                  | 9, hm, _, _, _, _, _, _ => exact absurd hm (by decide)
                  | 10, _, ho, h0, hf, hg, hfr, hdep =>
                    simp only [gTA, gCZ, gCS, gSI] at ho
                    subst ho
                    have t0 : ρ (.tmp 76) = .pointer (some ⟨hb, 4, none⟩) := hdep 9 76 (by kernel_rfl) (by kernel_rfl)
                    have t9 : d_ 8 = true ∧ (d_ 10 = false → ElA (fun _ es => es = pP pt) wr V7.heap.size 56 3 (.slice d M.length kk) M.length (M.flatMap pP) w' (ρ (.tmp 75))) := hdep 8 75 (by kernel_rfl) (by kernel_rfl)
                    have hG := t9.2 h0
                    obtain ⟨gz, cz, e9⟩ := hG.shape
                    rw [e9] at hG
                    have hF := appE_store (f := 4) hG FX.out.blk FX.out.far
                    have c1_ : w'.cell? ⟨hb, 4, none⟩ = some (.slice d M.length kk) := hF.2.cell rfl
                    have f1 := hF.2.frozen 4
                    refine ⟨rfl, markUpon_skip (w' := w'.setCell ⟨hb, 4, none⟩ (.slice (some ⟨gz, 0, none⟩) (M.length + 1) cz)) (by simp [go_sem, t0, e9, c1_, f1]) ?_⟩
                    refine ⟨⟨fun e => absurd ((doneO_ne d_ (by decide)).symm.trans e) (by rw [t9.1]; decide), fun e => absurd e (by rw [doneO_eq]; decide), fun _ => hF.1⟩, fun h => absurd rfl h, ?_⟩
                    intro j t hj hs
                    match j, hs with
                    | 0, hs => exact hs
                    | 1, hs => exact hs
                    | 2, hs => exact hs
                    | 3, hs => exact hs
                    | 4, hs => exact hs
                    | 5, hs => exact hs
                    | 6, hs => exact hs
                    | 7, hs => exact fun e => absurd ((doneO_ne d_ (by decide)).symm.trans e) (by rw [t9.1]; decide)
                    | 8, hs => exact ⟨(doneO_ne d_ (by decide)).trans hs.1, fun e => absurd e (by rw [doneO_eq]; decide)⟩
                    | 9, hs => exact hs
                    | 10, _ => trivial
                    | _ + 11, _ => trivial
                  | n + 11, _, ho, _, _, _, _, _ => simp at ho
                · intro U8 V8x hC8 hS
                  simp only [puts, put_none]
                  simp only [Act.put, List.setIfInBounds_toArray, List.set_cons_zero, List.set_cons_succ]
                  clear hS 
                  obtain ⟨g9, k9, F9⟩ := FX.out.step (hC8.2.2 rfl)
                  have F9h := hiddenG F9
                  clear hC8 F9 FX XG
                  go_wp2
                  go_roundg k
                  case measure => omega
                  case rel =>
                    refine ⟨k, (k : Int) - 1, some ⟨g9, 0, none⟩, k9, M ++ [pt], by omega, rfl, by first | rfl | go_num, rfl, ?_, trivial, ?_⟩
                    · rw [HM.out, RD.out]
                    · rw [List.length_append, List.flatMap_append, List.flatMap_singleton]
                      exact F9h.out
              | zero =>
                have hz' : zz = -1 := by omega
                subst hz'
                clear hzz
                rw [List.drop_zero] at HM
                have hMl : M.length = g.outs.length := by
                  have := congrArg List.length HM.out
                  simpa using this
                rw [hMl] at FX
                have BL5 := hiddenG (BL4.out.trans (FX.out.bel hwh))
                have XG5 := hiddenG (XG4.out.keep (FX.out.keep _ XG4.out.lt hgh))
                have KP4 := hiddenG FX.out.keep
                have SZ4 : Hid (V7.heap.size ≤ wr.heap.size) := FX.out.chg.size
                have BK4 := hiddenG FX.out.blk
                have HO4 := hiddenG FX.out.old
                have ROW4 := hiddenG FX.out.row
                have hcp4 := own_capO FX.out.row
                clear FX
                obtain ⟨d4, hd4⟩ : ∃ x, d = x := ⟨_, rfl⟩
                obtain ⟨k4, hk4⟩ : ∃ x, kk = x := ⟨_, rfl⟩
                rw [hd4, hk4] at BK4 ROW4
                rw [hk4] at hcp4
                clear hd4 hk4
                generalize wr = V8 at *
                have RW4 : Hid (∀ w', (∀ k, k < V8.heap.size → k ≠ hb → w'.heap[k]? = V8.heap[k]?) → AtPt w' d4 g.outs.reverse) := fun w' hk => by
                  have r := rowP_at (n := g.outs.length) (cp := k4) (As := M) (w := w') (B := V7.heap.size) (by rw [hMl]; exact ownR_keep ROW4.out fun k hk' => hk k (own_lt ROW4.out k hk') (by have := own_row ROW4.out k hk'; have := HO4.out; omega))
                  rw [HM.out] at r
                  exact r
                clear HM HMS M hMl ROW4 hq
                have GR8 : Hid (GrG V8 x1 d2 d3 d4 (revG g)) := ⟨RW1.out V8 (fun k h1 h2 => (KP4.out k (by have := SZ2.out; have := SZ3.out; omega) h2).trans ((KP3.out k (by have := SZ2.out; omega) h2).trans (KP2.out k h1 h2))), RW2.out V8 (fun k h1 h2 => (KP4.out k (by have := SZ3.out; omega) h2).trans (KP3.out k h1 h2)) BL5.out, RW3.out V8 (fun k h1 h2 => KP4.out k h1 h2), RW4.out V8 (fun k h1 h2 => rfl), by show g.actors.length ≤ _; omega, by show g.edges.reverse.length ≤ _; rw [List.length_reverse]; omega, by show g.ins.reverse.length ≤ _; rw [List.length_reverse]; omega, by show g.outs.reverse.length ≤ _; rw [List.length_reverse]; omega⟩
                have CR : Hid (∀ U, GrG U x1 d2 d3 d4 (revG g) → Calls Try.prog 25 #[.agg #[.string (str g.name), .slice x1 g.actors.length d1, .slice d2 g.edges.length k2, .slice d3 g.ins.length k3, .slice d4 g.outs.length k4]] U fun e w' => e = .returned (.int .i64 0) ∧ Below U.heap.size U w') := fun U hg => by
                  have q := check_any (revG g) x1 d2 d3 d4 d1 k2 k3 k4 U hg
                  rw [code_zero SR.out] at q
                  simp only [revG, List.length_reverse] at q
                  exact q
                clear RW1 RW2 RW3 RW4 KP2 KP3 KP4 SZ2 SZ3 SZ4 BK1 BK2 BK3 HO2 HO3 HO4 XG2 XG3 XG4 XG5 BL2 BL3 BL4 hgh hgh' hxw
                have L8 := BL5
                have BK8 := BK4
                clear BL5 BK4
                have z0 := BK8.out.cell (k := 0) rfl
                have z1 := BK8.out.cell (k := 1) rfl
                have z2 := BK8.out.cell (k := 2) rfl
                have z3 := BK8.out.cell (k := 3) rfl
                have z4 := BK8.out.cell (k := 4) rfl
                simp only [List.getElem_toArray, List.getElem_cons_zero, List.getElem_cons_succ] at z0 z1 z2 z3 z4
                go_upto_region 20 with (go_at_call 25; (with_reducible refine (CR.out _ GR8.out).mono ?_); rintro e V9 ⟨rfl, b9⟩; have L9 := hiddenG (L8.out.trans (b9.mono L8.out.size)); have BK9 := hiddenG (BK8.out.below b9); have GR9 := hiddenG (GR8.out.below b9); clear b9 z0 z1 z2 z3 z4)
                clear L8 BK8 GR8 CR
                have z0 := BK9.out.cell (k := 0) rfl
                have z1 := BK9.out.cell (k := 1) rfl
                have z2 := BK9.out.cell (k := 2) rfl
                have z3 := BK9.out.cell (k := 3) rfl
                have z4 := BK9.out.cell (k := 4) rfl
                simp only [List.getElem_toArray, List.getElem_cons_zero, List.getElem_cons_succ] at z0 z1 z2 z3 z4
                rcases hE2 : g.edges.reverse with _ | ⟨e2, es2⟩
                · have hl2 : g.edges.length = 0 := by simpa using congrArg List.length hE2
                  have hi2 : ¬ (0 : Int) < (g.edges.length : Int) := by omega
                  go_upto_region 25 with fail
                  clear z0 z1 z2 z3 z4 hl2 hi2 hE2
                  have z0 := BK9.out.cell (k := 0) rfl
                  have z1 := BK9.out.cell (k := 1) rfl
                  have z2 := BK9.out.cell (k := 2) rfl
                  have z3 := BK9.out.cell (k := 3) rfl
                  have z4 := BK9.out.cell (k := 4) rfl
                  simp only [List.getElem_toArray, List.getElem_cons_zero, List.getElem_cons_succ] at z0 z1 z2 z3 z4
                  rcases hE3 : g.ins.reverse with _ | ⟨e3, es3⟩
                  · have hl3 : g.ins.length = 0 := by simpa using congrArg List.length hE3
                    have hi3 : ¬ (0 : Int) < (g.ins.length : Int) := by omega
                    go_upto_region 30 with fail
                    clear z0 z1 z2 z3 z4 hl3 hi3 hE3
                    have z0 := BK9.out.cell (k := 0) rfl
                    have z1 := BK9.out.cell (k := 1) rfl
                    have z2 := BK9.out.cell (k := 2) rfl
                    have z3 := BK9.out.cell (k := 3) rfl
                    have z4 := BK9.out.cell (k := 4) rfl
                    simp only [List.getElem_toArray, List.getElem_cons_zero, List.getElem_cons_succ] at z0 z1 z2 z3 z4
                    rcases hE4 : g.outs.reverse with _ | ⟨e4, es4⟩
                    · have hl4 : g.outs.length = 0 := by simpa using congrArg List.length hE4
                      have hi4 : ¬ (0 : Int) < (g.outs.length : Int) := by omega
                      go_upto_region 35 with fail
                      clear z0 z1 z2 z3 z4 hl4 hi4 hE4
                      go_wp2_with (go_at_call 14; (with_reducible refine (AW.out _).mono ?_); rintro e VE ⟨rfl, ve⟩; have ME := hiddenG (L9.out.trans (ve.mono L9.out.size)); clear ve)
                      go_ret
                      exact ⟨rfl, ME.out⟩
                    · have hl4 : g.outs.length = es4.length + 1 := by simpa using congrArg List.length hE4
                      have hi4 : (0 : Int) < (((es4.length + 1 : Nat)) : Int) := by omega
                      have CE4 : Hid (∀ U y kk, GrG U x1 d2 d3 y ⟨g.name, g.actors, (revG g).edges, (revG g).ins, es4⟩ → Calls Try.prog 25 #[.agg #[.string (str g.name), .slice x1 g.actors.length d1, .slice d2 g.edges.length k2, .slice d3 g.ins.length k3, .slice y es4.length kk]] U fun e w' => e = .returned (.int .i64 87) ∧ Below U.heap.size U w') := fun U y kk hg => by
                        have q := check_any ⟨g.name, g.actors, (revG g).edges, (revG g).ins, es4⟩ x1 d2 d3 y d1 k2 k3 kk U hg
                        have q0 : (firstF ⟨g.name, g.actors, (revG g).edges, (revG g).ins, es4⟩).code = 87 := less_O (g := revG g) SR.out hE4
                        rw [q0] at q
                        simp only [revG, List.length_reverse] at q
                        exact q
                      obtain ⟨b4, o4, hd4⟩ : ∃ b o, d4 = some ⟨b, o, none⟩ := by
                        rcases GR9.out.O with e | ⟨b, o, e, -⟩
                        · exact absurd (show g.outs.reverse = [] from e) (by rw [hE4]; exact List.cons_ne_nil _ _)
                        · exact ⟨b, o, e⟩
                      subst hd4
                      rw [hl4] at z4 hcp4
                      by_cases hk41 : k4 = 1
                      · subst hk41
                        have HZ4 : Hid (es4.length = 0) := by show _ = _; omega
                        clear hcp4
                        go_upto_region 32 with fail
                        have bb4 := (Below.refl V9.heap.size V9).alloc (Nat.le_refl _) (.cells #[.string (str g.name), .slice x1 g.actors.length d1, .slice d2 g.edges.length k2, .slice d3 g.ins.length k3, .slice (some ⟨b4, o4, none⟩) (es4.length + 1) 1] 31)
                        have NB4 := hiddenG (blkA_new 31 V9 #[.string (str g.name), .slice x1 g.actors.length d1, .slice d2 g.edges.length k2, .slice d3 g.ins.length k3, .slice (some ⟨b4, o4, none⟩) (es4.length + 1) 1])
                        obtain ⟨nb4, hnb4⟩ : ∃ q, V9.heap.size = q := ⟨_, rfl⟩
                        rw [hnb4] at NB4 ⊢
                        have OB4 := hiddenG (BK9.out.below bb4)
                        have BB4 := hiddenG bb4
                        generalize V9.alloc (.cells #[.string (str g.name), .slice x1 g.actors.length d1, .slice d2 g.edges.length k2, .slice d3 g.ins.length k3, .slice (some ⟨b4, o4, none⟩) (es4.length + 1) 1] 31) = V9a at *
                        clear bb4 z0 z1 z2 z3 z4
                        have z4 := OB4.out.cell (k := 4) rfl
                        simp only [List.getElem_toArray, List.getElem_cons_zero, List.getElem_cons_succ] at z4
                        rw [hl4] at z4
                        have m4 := NB4.out.cell (k := 4) rfl
                        simp only [List.getElem_toArray, List.getElem_cons_zero, List.getElem_cons_succ] at m4
                        have fz4 := NB4.out.frozen 4
                        go_upto_region 33 with fail
                        have q1 := NB4.out.set 4 (.slice (some ⟨b4, o4, none⟩) es4.length 0)
                        simp only [List.setIfInBounds_toArray, List.set_cons_zero, List.set_cons_succ] at q1
                        have q2 := But.set V9a nb4 4 (.slice (some ⟨b4, o4, none⟩) es4.length 0)
                        have q3 : Below V9.heap.size V9 (V9a.setCell ⟨nb4, 4, none⟩ (.slice (some ⟨b4, o4, none⟩) es4.length 0)) := BB4.out.trans (q2.below (by omega) BB4.out.size)
                        generalize V9a.setCell ⟨nb4, 4, none⟩ (.slice (some ⟨b4, o4, none⟩) es4.length 0) = V9b at *
                        have LB4 := hiddenG (L9.out.trans (q3.mono L9.out.size))
                        have BKb4 := hiddenG (BK9.out.below q3)
                        have GRb4 := hiddenG (GR9.out.below q3)
                        have m0 := q1.cell (k := 0) rfl
                        have m1 := q1.cell (k := 1) rfl
                        have m2 := q1.cell (k := 2) rfl
                        have m3 := q1.cell (k := 3) rfl
                        have m4 := q1.cell (k := 4) rfl
                        simp only [List.getElem_toArray, List.getElem_cons_zero, List.getElem_cons_succ] at m0 m1 m2 m3 m4
                        clear q1 q2 q3 z4 fz4 NB4 OB4 BB4
                        have GRl4 : Hid (GrG V9b x1 d2 d3 (some ⟨b4, o4, none⟩) ⟨g.name, g.actors, (revG g).edges, (revG g).ins, es4⟩) := ⟨GRb4.out.A, GRb4.out.E, GRb4.out.I, (.inl (List.eq_nil_of_length_eq_zero HZ4.out)), GRb4.out.l1, GRb4.out.l2, GRb4.out.l3, (by show es4.length ≤ _; omega)⟩
                        go_upto_region 35 with (go_at_call 25; (with_reducible refine (CE4.out _ (some ⟨b4, o4, none⟩) 0 GRl4.out).mono ?_); rintro e V10 ⟨rfl, b9⟩; have L10 := hiddenG (LB4.out.trans (b9.mono LB4.out.size)); have BK10 := hiddenG (BKb4.out.below b9); have GR10 := hiddenG (GRb4.out.below b9); clear b9 m0 m1 m2 m3 m4)
                        clear LB4 BKb4 GRb4 GRl4 CE4 hl4 hi4 hE4
                        go_wp2_with (go_at_call 14; (with_reducible refine (AW.out _).mono ?_); rintro e VE ⟨rfl, ve⟩; have ME := hiddenG (L10.out.trans (ve.mono L10.out.size)); clear ve)
                        go_ret
                        exact ⟨rfl, ME.out⟩
                      · have hk42 : ¬ k4 = 1 := hk41
                        go_upto_region 32 with fail
                        have bb4 := (Below.refl V9.heap.size V9).alloc (Nat.le_refl _) (.cells #[.string (str g.name), .slice x1 g.actors.length d1, .slice d2 g.edges.length k2, .slice d3 g.ins.length k3, .slice (some ⟨b4, o4, none⟩) (es4.length + 1) k4] 31)
                        have NB4 := hiddenG (blkA_new 31 V9 #[.string (str g.name), .slice x1 g.actors.length d1, .slice d2 g.edges.length k2, .slice d3 g.ins.length k3, .slice (some ⟨b4, o4, none⟩) (es4.length + 1) k4])
                        obtain ⟨nb4, hnb4⟩ : ∃ q, V9.heap.size = q := ⟨_, rfl⟩
                        rw [hnb4] at NB4 ⊢
                        have OB4 := hiddenG (BK9.out.below bb4)
                        have BB4 := hiddenG bb4
                        generalize V9.alloc (.cells #[.string (str g.name), .slice x1 g.actors.length d1, .slice d2 g.edges.length k2, .slice d3 g.ins.length k3, .slice (some ⟨b4, o4, none⟩) (es4.length + 1) k4] 31) = V9a at *
                        clear bb4 z0 z1 z2 z3 z4
                        have z4 := OB4.out.cell (k := 4) rfl
                        simp only [List.getElem_toArray, List.getElem_cons_zero, List.getElem_cons_succ] at z4
                        rw [hl4] at z4
                        have m4 := NB4.out.cell (k := 4) rfl
                        simp only [List.getElem_toArray, List.getElem_cons_zero, List.getElem_cons_succ] at m4
                        have fz4 := NB4.out.frozen 4
                        go_upto_region 33 with fail
                        have q1 := NB4.out.set 4 (.slice (some ⟨b4, o4 + 3, none⟩) es4.length (k4 - 1))
                        simp only [List.setIfInBounds_toArray, List.set_cons_zero, List.set_cons_succ] at q1
                        have q2 := But.set V9a nb4 4 (.slice (some ⟨b4, o4 + 3, none⟩) es4.length (k4 - 1))
                        have q3 : Below V9.heap.size V9 (V9a.setCell ⟨nb4, 4, none⟩ (.slice (some ⟨b4, o4 + 3, none⟩) es4.length (k4 - 1))) := BB4.out.trans (q2.below (by omega) BB4.out.size)
                        generalize V9a.setCell ⟨nb4, 4, none⟩ (.slice (some ⟨b4, o4 + 3, none⟩) es4.length (k4 - 1)) = V9b at *
                        have LB4 := hiddenG (L9.out.trans (q3.mono L9.out.size))
                        have BKb4 := hiddenG (BK9.out.below q3)
                        have GRb4 := hiddenG (GR9.out.below q3)
                        have m0 := q1.cell (k := 0) rfl
                        have m1 := q1.cell (k := 1) rfl
                        have m2 := q1.cell (k := 2) rfl
                        have m3 := q1.cell (k := 3) rfl
                        have m4 := q1.cell (k := 4) rfl
                        simp only [List.getElem_toArray, List.getElem_cons_zero, List.getElem_cons_succ] at m0 m1 m2 m3 m4
                        clear q1 q2 q3 z4 fz4 NB4 OB4 BB4
                        have GRl4 : Hid (GrG V9b x1 d2 d3 (some ⟨b4, o4 + 3, none⟩) ⟨g.name, g.actors, (revG g).edges, (revG g).ins, es4⟩) := ⟨GRb4.out.A, GRb4.out.E, GRb4.out.I, (AtPt.tail (e := e4) (by have q := GRb4.out.O; rw [show (revG g).outs = e4 :: es4 from hE4] at q; exact q)), GRb4.out.l1, GRb4.out.l2, GRb4.out.l3, (by show es4.length ≤ _; omega)⟩
                        go_upto_region 35 with (go_at_call 25; (with_reducible refine (CE4.out _ (some ⟨b4, o4 + 3, none⟩) (k4 - 1) GRl4.out).mono ?_); rintro e V10 ⟨rfl, b9⟩; have L10 := hiddenG (LB4.out.trans (b9.mono LB4.out.size)); have BK10 := hiddenG (BKb4.out.below b9); have GR10 := hiddenG (GRb4.out.below b9); clear b9 m0 m1 m2 m3 m4)
                        clear LB4 BKb4 GRb4 GRl4 CE4 hl4 hi4 hE4
                        go_wp2_with (go_at_call 14; (with_reducible refine (AW.out _).mono ?_); rintro e VE ⟨rfl, ve⟩; have ME := hiddenG (L10.out.trans (ve.mono L10.out.size)); clear ve)
                        go_ret
                        exact ⟨rfl, ME.out⟩
                  · have hl3 : g.ins.length = es3.length + 1 := by simpa using congrArg List.length hE3
                    have hi3 : (0 : Int) < (((es3.length + 1 : Nat)) : Int) := by omega
                    have CE3 : Hid (∀ U y kk, GrG U x1 d2 y d4 ⟨g.name, g.actors, (revG g).edges, es3, (revG g).outs⟩ → Calls Try.prog 25 #[.agg #[.string (str g.name), .slice x1 g.actors.length d1, .slice d2 g.edges.length k2, .slice y es3.length kk, .slice d4 g.outs.length k4]] U fun e w' => e = .returned (.int .i64 87) ∧ Below U.heap.size U w') := fun U y kk hg => by
                      have q := check_any ⟨g.name, g.actors, (revG g).edges, es3, (revG g).outs⟩ x1 d2 y d4 d1 k2 kk k4 U hg
                      have q0 : (firstF ⟨g.name, g.actors, (revG g).edges, es3, (revG g).outs⟩).code = 87 := less_I (g := revG g) SR.out hE3
                      rw [q0] at q
                      simp only [revG, List.length_reverse] at q
                      exact q
                    obtain ⟨b3, o3, hd3⟩ : ∃ b o, d3 = some ⟨b, o, none⟩ := by
                      rcases GR9.out.I with e | ⟨b, o, e, -⟩
                      · exact absurd (show g.ins.reverse = [] from e) (by rw [hE3]; exact List.cons_ne_nil _ _)
                      · exact ⟨b, o, e⟩
                    subst hd3
                    rw [hl3] at z3 hcp3
                    by_cases hk31 : k3 = 1
                    · subst hk31
                      have HZ3 : Hid (es3.length = 0) := by show _ = _; omega
                      clear hcp3
                      go_upto_region 27 with fail
                      have bb3 := (Below.refl V9.heap.size V9).alloc (Nat.le_refl _) (.cells #[.string (str g.name), .slice x1 g.actors.length d1, .slice d2 g.edges.length k2, .slice (some ⟨b3, o3, none⟩) (es3.length + 1) 1, .slice d4 g.outs.length k4] 31)
                      have NB3 := hiddenG (blkA_new 31 V9 #[.string (str g.name), .slice x1 g.actors.length d1, .slice d2 g.edges.length k2, .slice (some ⟨b3, o3, none⟩) (es3.length + 1) 1, .slice d4 g.outs.length k4])
                      obtain ⟨nb3, hnb3⟩ : ∃ q, V9.heap.size = q := ⟨_, rfl⟩
                      rw [hnb3] at NB3 ⊢
                      have OB3 := hiddenG (BK9.out.below bb3)
                      have BB3 := hiddenG bb3
                      generalize V9.alloc (.cells #[.string (str g.name), .slice x1 g.actors.length d1, .slice d2 g.edges.length k2, .slice (some ⟨b3, o3, none⟩) (es3.length + 1) 1, .slice d4 g.outs.length k4] 31) = V9a at *
                      clear bb3 z0 z1 z2 z3 z4
                      have z3 := OB3.out.cell (k := 3) rfl
                      simp only [List.getElem_toArray, List.getElem_cons_zero, List.getElem_cons_succ] at z3
                      rw [hl3] at z3
                      have m3 := NB3.out.cell (k := 3) rfl
                      simp only [List.getElem_toArray, List.getElem_cons_zero, List.getElem_cons_succ] at m3
                      have fz3 := NB3.out.frozen 3
                      go_upto_region 28 with fail
                      have q1 := NB3.out.set 3 (.slice (some ⟨b3, o3, none⟩) es3.length 0)
                      simp only [List.setIfInBounds_toArray, List.set_cons_zero, List.set_cons_succ] at q1
                      have q2 := But.set V9a nb3 3 (.slice (some ⟨b3, o3, none⟩) es3.length 0)
                      have q3 : Below V9.heap.size V9 (V9a.setCell ⟨nb3, 3, none⟩ (.slice (some ⟨b3, o3, none⟩) es3.length 0)) := BB3.out.trans (q2.below (by omega) BB3.out.size)
                      generalize V9a.setCell ⟨nb3, 3, none⟩ (.slice (some ⟨b3, o3, none⟩) es3.length 0) = V9b at *
                      have LB3 := hiddenG (L9.out.trans (q3.mono L9.out.size))
                      have BKb3 := hiddenG (BK9.out.below q3)
                      have GRb3 := hiddenG (GR9.out.below q3)
                      have m0 := q1.cell (k := 0) rfl
                      have m1 := q1.cell (k := 1) rfl
                      have m2 := q1.cell (k := 2) rfl
                      have m3 := q1.cell (k := 3) rfl
                      have m4 := q1.cell (k := 4) rfl
                      simp only [List.getElem_toArray, List.getElem_cons_zero, List.getElem_cons_succ] at m0 m1 m2 m3 m4
                      clear q1 q2 q3 z3 fz3 NB3 OB3 BB3
                      have GRl3 : Hid (GrG V9b x1 d2 (some ⟨b3, o3, none⟩) d4 ⟨g.name, g.actors, (revG g).edges, es3, (revG g).outs⟩) := ⟨GRb3.out.A, GRb3.out.E, (.inl (List.eq_nil_of_length_eq_zero HZ3.out)), GRb3.out.O, GRb3.out.l1, GRb3.out.l2, (by show es3.length ≤ _; omega), GRb3.out.l4⟩
                      go_upto_region 30 with (go_at_call 25; (with_reducible refine (CE3.out _ (some ⟨b3, o3, none⟩) 0 GRl3.out).mono ?_); rintro e V10 ⟨rfl, b9⟩; have L10 := hiddenG (LB3.out.trans (b9.mono LB3.out.size)); have BK10 := hiddenG (BKb3.out.below b9); have GR10 := hiddenG (GRb3.out.below b9); clear b9 m0 m1 m2 m3 m4)
                      clear LB3 BKb3 GRb3 GRl3 CE3 hl3 hi3 hE3
                      have z0 := BK10.out.cell (k := 0) rfl
                      have z1 := BK10.out.cell (k := 1) rfl
                      have z2 := BK10.out.cell (k := 2) rfl
                      have z3 := BK10.out.cell (k := 3) rfl
                      have z4 := BK10.out.cell (k := 4) rfl
                      simp only [List.getElem_toArray, List.getElem_cons_zero, List.getElem_cons_succ] at z0 z1 z2 z3 z4
                      rcases hE4 : g.outs.reverse with _ | ⟨e4, es4⟩
                      · have hl4 : g.outs.length = 0 := by simpa using congrArg List.length hE4
                        have hi4 : ¬ (0 : Int) < (g.outs.length : Int) := by omega
                        go_upto_region 35 with fail
                        clear z0 z1 z2 z3 z4 hl4 hi4 hE4
                        go_wp2_with (go_at_call 14; (with_reducible refine (AW.out _).mono ?_); rintro e VE ⟨rfl, ve⟩; have ME := hiddenG (L10.out.trans (ve.mono L10.out.size)); clear ve)
                        go_ret
                        exact ⟨rfl, ME.out⟩
                      · have hl4 : g.outs.length = es4.length + 1 := by simpa using congrArg List.length hE4
                        have hi4 : (0 : Int) < (((es4.length + 1 : Nat)) : Int) := by omega
                        have CE4 : Hid (∀ U y kk, GrG U x1 d2 (some ⟨b3, o3, none⟩) y ⟨g.name, g.actors, (revG g).edges, (revG g).ins, es4⟩ → Calls Try.prog 25 #[.agg #[.string (str g.name), .slice x1 g.actors.length d1, .slice d2 g.edges.length k2, .slice (some ⟨b3, o3, none⟩) g.ins.length 1, .slice y es4.length kk]] U fun e w' => e = .returned (.int .i64 87) ∧ Below U.heap.size U w') := fun U y kk hg => by
                          have q := check_any ⟨g.name, g.actors, (revG g).edges, (revG g).ins, es4⟩ x1 d2 (some ⟨b3, o3, none⟩) y d1 k2 1 kk U hg
                          have q0 : (firstF ⟨g.name, g.actors, (revG g).edges, (revG g).ins, es4⟩).code = 87 := less_O (g := revG g) SR.out hE4
                          rw [q0] at q
                          simp only [revG, List.length_reverse] at q
                          exact q
                        obtain ⟨b4, o4, hd4⟩ : ∃ b o, d4 = some ⟨b, o, none⟩ := by
                          rcases GR10.out.O with e | ⟨b, o, e, -⟩
                          · exact absurd (show g.outs.reverse = [] from e) (by rw [hE4]; exact List.cons_ne_nil _ _)
                          · exact ⟨b, o, e⟩
                        subst hd4
                        rw [hl4] at z4 hcp4
                        by_cases hk41 : k4 = 1
                        · subst hk41
                          have HZ4 : Hid (es4.length = 0) := by show _ = _; omega
                          clear hcp4
                          go_upto_region 32 with fail
                          have bb4 := (Below.refl V10.heap.size V10).alloc (Nat.le_refl _) (.cells #[.string (str g.name), .slice x1 g.actors.length d1, .slice d2 g.edges.length k2, .slice (some ⟨b3, o3, none⟩) g.ins.length 1, .slice (some ⟨b4, o4, none⟩) (es4.length + 1) 1] 31)
                          have NB4 := hiddenG (blkA_new 31 V10 #[.string (str g.name), .slice x1 g.actors.length d1, .slice d2 g.edges.length k2, .slice (some ⟨b3, o3, none⟩) g.ins.length 1, .slice (some ⟨b4, o4, none⟩) (es4.length + 1) 1])
                          obtain ⟨nb4, hnb4⟩ : ∃ q, V10.heap.size = q := ⟨_, rfl⟩
                          rw [hnb4] at NB4 ⊢
                          have OB4 := hiddenG (BK10.out.below bb4)
                          have BB4 := hiddenG bb4
                          generalize V10.alloc (.cells #[.string (str g.name), .slice x1 g.actors.length d1, .slice d2 g.edges.length k2, .slice (some ⟨b3, o3, none⟩) g.ins.length 1, .slice (some ⟨b4, o4, none⟩) (es4.length + 1) 1] 31) = V10a at *
                          clear bb4 z0 z1 z2 z3 z4
                          have z4 := OB4.out.cell (k := 4) rfl
                          simp only [List.getElem_toArray, List.getElem_cons_zero, List.getElem_cons_succ] at z4
                          rw [hl4] at z4
                          have m4 := NB4.out.cell (k := 4) rfl
                          simp only [List.getElem_toArray, List.getElem_cons_zero, List.getElem_cons_succ] at m4
                          have fz4 := NB4.out.frozen 4
                          go_upto_region 33 with fail
                          have q1 := NB4.out.set 4 (.slice (some ⟨b4, o4, none⟩) es4.length 0)
                          simp only [List.setIfInBounds_toArray, List.set_cons_zero, List.set_cons_succ] at q1
                          have q2 := But.set V10a nb4 4 (.slice (some ⟨b4, o4, none⟩) es4.length 0)
                          have q3 : Below V10.heap.size V10 (V10a.setCell ⟨nb4, 4, none⟩ (.slice (some ⟨b4, o4, none⟩) es4.length 0)) := BB4.out.trans (q2.below (by omega) BB4.out.size)
                          generalize V10a.setCell ⟨nb4, 4, none⟩ (.slice (some ⟨b4, o4, none⟩) es4.length 0) = V10b at *
                          have LB4 := hiddenG (L10.out.trans (q3.mono L10.out.size))
                          have BKb4 := hiddenG (BK10.out.below q3)
                          have GRb4 := hiddenG (GR10.out.below q3)
                          have m0 := q1.cell (k := 0) rfl
                          have m1 := q1.cell (k := 1) rfl
                          have m2 := q1.cell (k := 2) rfl
                          have m3 := q1.cell (k := 3) rfl
                          have m4 := q1.cell (k := 4) rfl
                          simp only [List.getElem_toArray, List.getElem_cons_zero, List.getElem_cons_succ] at m0 m1 m2 m3 m4
                          clear q1 q2 q3 z4 fz4 NB4 OB4 BB4
                          have GRl4 : Hid (GrG V10b x1 d2 (some ⟨b3, o3, none⟩) (some ⟨b4, o4, none⟩) ⟨g.name, g.actors, (revG g).edges, (revG g).ins, es4⟩) := ⟨GRb4.out.A, GRb4.out.E, GRb4.out.I, (.inl (List.eq_nil_of_length_eq_zero HZ4.out)), GRb4.out.l1, GRb4.out.l2, GRb4.out.l3, (by show es4.length ≤ _; omega)⟩
                          go_upto_region 35 with (go_at_call 25; (with_reducible refine (CE4.out _ (some ⟨b4, o4, none⟩) 0 GRl4.out).mono ?_); rintro e V11 ⟨rfl, b9⟩; have L11 := hiddenG (LB4.out.trans (b9.mono LB4.out.size)); have BK11 := hiddenG (BKb4.out.below b9); have GR11 := hiddenG (GRb4.out.below b9); clear b9 m0 m1 m2 m3 m4)
                          clear LB4 BKb4 GRb4 GRl4 CE4 hl4 hi4 hE4
                          go_wp2_with (go_at_call 14; (with_reducible refine (AW.out _).mono ?_); rintro e VE ⟨rfl, ve⟩; have ME := hiddenG (L11.out.trans (ve.mono L11.out.size)); clear ve)
                          go_ret
                          exact ⟨rfl, ME.out⟩
                        · have hk42 : ¬ k4 = 1 := hk41
                          go_upto_region 32 with fail
                          have bb4 := (Below.refl V10.heap.size V10).alloc (Nat.le_refl _) (.cells #[.string (str g.name), .slice x1 g.actors.length d1, .slice d2 g.edges.length k2, .slice (some ⟨b3, o3, none⟩) g.ins.length 1, .slice (some ⟨b4, o4, none⟩) (es4.length + 1) k4] 31)
                          have NB4 := hiddenG (blkA_new 31 V10 #[.string (str g.name), .slice x1 g.actors.length d1, .slice d2 g.edges.length k2, .slice (some ⟨b3, o3, none⟩) g.ins.length 1, .slice (some ⟨b4, o4, none⟩) (es4.length + 1) k4])
                          obtain ⟨nb4, hnb4⟩ : ∃ q, V10.heap.size = q := ⟨_, rfl⟩
                          rw [hnb4] at NB4 ⊢
                          have OB4 := hiddenG (BK10.out.below bb4)
                          have BB4 := hiddenG bb4
                          generalize V10.alloc (.cells #[.string (str g.name), .slice x1 g.actors.length d1, .slice d2 g.edges.length k2, .slice (some ⟨b3, o3, none⟩) g.ins.length 1, .slice (some ⟨b4, o4, none⟩) (es4.length + 1) k4] 31) = V10a at *
                          clear bb4 z0 z1 z2 z3 z4
                          have z4 := OB4.out.cell (k := 4) rfl
                          simp only [List.getElem_toArray, List.getElem_cons_zero, List.getElem_cons_succ] at z4
                          rw [hl4] at z4
                          have m4 := NB4.out.cell (k := 4) rfl
                          simp only [List.getElem_toArray, List.getElem_cons_zero, List.getElem_cons_succ] at m4
                          have fz4 := NB4.out.frozen 4
                          go_upto_region 33 with fail
                          have q1 := NB4.out.set 4 (.slice (some ⟨b4, o4 + 3, none⟩) es4.length (k4 - 1))
                          simp only [List.setIfInBounds_toArray, List.set_cons_zero, List.set_cons_succ] at q1
                          have q2 := But.set V10a nb4 4 (.slice (some ⟨b4, o4 + 3, none⟩) es4.length (k4 - 1))
                          have q3 : Below V10.heap.size V10 (V10a.setCell ⟨nb4, 4, none⟩ (.slice (some ⟨b4, o4 + 3, none⟩) es4.length (k4 - 1))) := BB4.out.trans (q2.below (by omega) BB4.out.size)
                          generalize V10a.setCell ⟨nb4, 4, none⟩ (.slice (some ⟨b4, o4 + 3, none⟩) es4.length (k4 - 1)) = V10b at *
                          have LB4 := hiddenG (L10.out.trans (q3.mono L10.out.size))
                          have BKb4 := hiddenG (BK10.out.below q3)
                          have GRb4 := hiddenG (GR10.out.below q3)
                          have m0 := q1.cell (k := 0) rfl
                          have m1 := q1.cell (k := 1) rfl
                          have m2 := q1.cell (k := 2) rfl
                          have m3 := q1.cell (k := 3) rfl
                          have m4 := q1.cell (k := 4) rfl
                          simp only [List.getElem_toArray, List.getElem_cons_zero, List.getElem_cons_succ] at m0 m1 m2 m3 m4
                          clear q1 q2 q3 z4 fz4 NB4 OB4 BB4
                          have GRl4 : Hid (GrG V10b x1 d2 (some ⟨b3, o3, none⟩) (some ⟨b4, o4 + 3, none⟩) ⟨g.name, g.actors, (revG g).edges, (revG g).ins, es4⟩) := ⟨GRb4.out.A, GRb4.out.E, GRb4.out.I, (AtPt.tail (e := e4) (by have q := GRb4.out.O; rw [show (revG g).outs = e4 :: es4 from hE4] at q; exact q)), GRb4.out.l1, GRb4.out.l2, GRb4.out.l3, (by show es4.length ≤ _; omega)⟩
                          go_upto_region 35 with (go_at_call 25; (with_reducible refine (CE4.out _ (some ⟨b4, o4 + 3, none⟩) (k4 - 1) GRl4.out).mono ?_); rintro e V11 ⟨rfl, b9⟩; have L11 := hiddenG (LB4.out.trans (b9.mono LB4.out.size)); have BK11 := hiddenG (BKb4.out.below b9); have GR11 := hiddenG (GRb4.out.below b9); clear b9 m0 m1 m2 m3 m4)
                          clear LB4 BKb4 GRb4 GRl4 CE4 hl4 hi4 hE4
                          go_wp2_with (go_at_call 14; (with_reducible refine (AW.out _).mono ?_); rintro e VE ⟨rfl, ve⟩; have ME := hiddenG (L11.out.trans (ve.mono L11.out.size)); clear ve)
                          go_ret
                          exact ⟨rfl, ME.out⟩
                    · have hk32 : ¬ k3 = 1 := hk31
                      go_upto_region 27 with fail
                      have bb3 := (Below.refl V9.heap.size V9).alloc (Nat.le_refl _) (.cells #[.string (str g.name), .slice x1 g.actors.length d1, .slice d2 g.edges.length k2, .slice (some ⟨b3, o3, none⟩) (es3.length + 1) k3, .slice d4 g.outs.length k4] 31)
                      have NB3 := hiddenG (blkA_new 31 V9 #[.string (str g.name), .slice x1 g.actors.length d1, .slice d2 g.edges.length k2, .slice (some ⟨b3, o3, none⟩) (es3.length + 1) k3, .slice d4 g.outs.length k4])
                      obtain ⟨nb3, hnb3⟩ : ∃ q, V9.heap.size = q := ⟨_, rfl⟩
                      rw [hnb3] at NB3 ⊢
                      have OB3 := hiddenG (BK9.out.below bb3)
                      have BB3 := hiddenG bb3
                      generalize V9.alloc (.cells #[.string (str g.name), .slice x1 g.actors.length d1, .slice d2 g.edges.length k2, .slice (some ⟨b3, o3, none⟩) (es3.length + 1) k3, .slice d4 g.outs.length k4] 31) = V9a at *
                      clear bb3 z0 z1 z2 z3 z4
                      have z3 := OB3.out.cell (k := 3) rfl
                      simp only [List.getElem_toArray, List.getElem_cons_zero, List.getElem_cons_succ] at z3
                      rw [hl3] at z3
                      have m3 := NB3.out.cell (k := 3) rfl
                      simp only [List.getElem_toArray, List.getElem_cons_zero, List.getElem_cons_succ] at m3
                      have fz3 := NB3.out.frozen 3
                      go_upto_region 28 with fail
                      have q1 := NB3.out.set 3 (.slice (some ⟨b3, o3 + 3, none⟩) es3.length (k3 - 1))
                      simp only [List.setIfInBounds_toArray, List.set_cons_zero, List.set_cons_succ] at q1
                      have q2 := But.set V9a nb3 3 (.slice (some ⟨b3, o3 + 3, none⟩) es3.length (k3 - 1))
                      have q3 : Below V9.heap.size V9 (V9a.setCell ⟨nb3, 3, none⟩ (.slice (some ⟨b3, o3 + 3, none⟩) es3.length (k3 - 1))) := BB3.out.trans (q2.below (by omega) BB3.out.size)
                      generalize V9a.setCell ⟨nb3, 3, none⟩ (.slice (some ⟨b3, o3 + 3, none⟩) es3.length (k3 - 1)) = V9b at *
                      have LB3 := hiddenG (L9.out.trans (q3.mono L9.out.size))
                      have BKb3 := hiddenG (BK9.out.below q3)
                      have GRb3 := hiddenG (GR9.out.below q3)
                      have m0 := q1.cell (k := 0) rfl
                      have m1 := q1.cell (k := 1) rfl
                      have m2 := q1.cell (k := 2) rfl
                      have m3 := q1.cell (k := 3) rfl
                      have m4 := q1.cell (k := 4) rfl
                      simp only [List.getElem_toArray, List.getElem_cons_zero, List.getElem_cons_succ] at m0 m1 m2 m3 m4
                      clear q1 q2 q3 z3 fz3 NB3 OB3 BB3
                      have GRl3 : Hid (GrG V9b x1 d2 (some ⟨b3, o3 + 3, none⟩) d4 ⟨g.name, g.actors, (revG g).edges, es3, (revG g).outs⟩) := ⟨GRb3.out.A, GRb3.out.E, (AtPt.tail (e := e3) (by have q := GRb3.out.I; rw [show (revG g).ins = e3 :: es3 from hE3] at q; exact q)), GRb3.out.O, GRb3.out.l1, GRb3.out.l2, (by show es3.length ≤ _; omega), GRb3.out.l4⟩
                      go_upto_region 30 with (go_at_call 25; (with_reducible refine (CE3.out _ (some ⟨b3, o3 + 3, none⟩) (k3 - 1) GRl3.out).mono ?_); rintro e V10 ⟨rfl, b9⟩; have L10 := hiddenG (LB3.out.trans (b9.mono LB3.out.size)); have BK10 := hiddenG (BKb3.out.below b9); have GR10 := hiddenG (GRb3.out.below b9); clear b9 m0 m1 m2 m3 m4)
                      clear LB3 BKb3 GRb3 GRl3 CE3 hl3 hi3 hE3
                      have z0 := BK10.out.cell (k := 0) rfl
                      have z1 := BK10.out.cell (k := 1) rfl
                      have z2 := BK10.out.cell (k := 2) rfl
                      have z3 := BK10.out.cell (k := 3) rfl
                      have z4 := BK10.out.cell (k := 4) rfl
                      simp only [List.getElem_toArray, List.getElem_cons_zero, List.getElem_cons_succ] at z0 z1 z2 z3 z4
                      rcases hE4 : g.outs.reverse with _ | ⟨e4, es4⟩
                      · have hl4 : g.outs.length = 0 := by simpa using congrArg List.length hE4
                        have hi4 : ¬ (0 : Int) < (g.outs.length : Int) := by omega
                        go_upto_region 35 with fail
                        clear z0 z1 z2 z3 z4 hl4 hi4 hE4
                        go_wp2_with (go_at_call 14; (with_reducible refine (AW.out _).mono ?_); rintro e VE ⟨rfl, ve⟩; have ME := hiddenG (L10.out.trans (ve.mono L10.out.size)); clear ve)
                        go_ret
                        exact ⟨rfl, ME.out⟩
                      · have hl4 : g.outs.length = es4.length + 1 := by simpa using congrArg List.length hE4
                        have hi4 : (0 : Int) < (((es4.length + 1 : Nat)) : Int) := by omega
                        have CE4 : Hid (∀ U y kk, GrG U x1 d2 (some ⟨b3, o3, none⟩) y ⟨g.name, g.actors, (revG g).edges, (revG g).ins, es4⟩ → Calls Try.prog 25 #[.agg #[.string (str g.name), .slice x1 g.actors.length d1, .slice d2 g.edges.length k2, .slice (some ⟨b3, o3, none⟩) g.ins.length k3, .slice y es4.length kk]] U fun e w' => e = .returned (.int .i64 87) ∧ Below U.heap.size U w') := fun U y kk hg => by
                          have q := check_any ⟨g.name, g.actors, (revG g).edges, (revG g).ins, es4⟩ x1 d2 (some ⟨b3, o3, none⟩) y d1 k2 k3 kk U hg
                          have q0 : (firstF ⟨g.name, g.actors, (revG g).edges, (revG g).ins, es4⟩).code = 87 := less_O (g := revG g) SR.out hE4
                          rw [q0] at q
                          simp only [revG, List.length_reverse] at q
                          exact q
                        obtain ⟨b4, o4, hd4⟩ : ∃ b o, d4 = some ⟨b, o, none⟩ := by
                          rcases GR10.out.O with e | ⟨b, o, e, -⟩
                          · exact absurd (show g.outs.reverse = [] from e) (by rw [hE4]; exact List.cons_ne_nil _ _)
                          · exact ⟨b, o, e⟩
                        subst hd4
                        rw [hl4] at z4 hcp4
                        by_cases hk41 : k4 = 1
                        · subst hk41
                          have HZ4 : Hid (es4.length = 0) := by show _ = _; omega
                          clear hcp4
                          go_upto_region 32 with fail
                          have bb4 := (Below.refl V10.heap.size V10).alloc (Nat.le_refl _) (.cells #[.string (str g.name), .slice x1 g.actors.length d1, .slice d2 g.edges.length k2, .slice (some ⟨b3, o3, none⟩) g.ins.length k3, .slice (some ⟨b4, o4, none⟩) (es4.length + 1) 1] 31)
                          have NB4 := hiddenG (blkA_new 31 V10 #[.string (str g.name), .slice x1 g.actors.length d1, .slice d2 g.edges.length k2, .slice (some ⟨b3, o3, none⟩) g.ins.length k3, .slice (some ⟨b4, o4, none⟩) (es4.length + 1) 1])
                          obtain ⟨nb4, hnb4⟩ : ∃ q, V10.heap.size = q := ⟨_, rfl⟩
                          rw [hnb4] at NB4 ⊢
                          have OB4 := hiddenG (BK10.out.below bb4)
                          have BB4 := hiddenG bb4
                          generalize V10.alloc (.cells #[.string (str g.name), .slice x1 g.actors.length d1, .slice d2 g.edges.length k2, .slice (some ⟨b3, o3, none⟩) g.ins.length k3, .slice (some ⟨b4, o4, none⟩) (es4.length + 1) 1] 31) = V10a at *
                          clear bb4 z0 z1 z2 z3 z4
                          have z4 := OB4.out.cell (k := 4) rfl
                          simp only [List.getElem_toArray, List.getElem_cons_zero, List.getElem_cons_succ] at z4
                          rw [hl4] at z4
                          have m4 := NB4.out.cell (k := 4) rfl
                          simp only [List.getElem_toArray, List.getElem_cons_zero, List.getElem_cons_succ] at m4
                          have fz4 := NB4.out.frozen 4
                          go_upto_region 33 with fail
                          have q1 := NB4.out.set 4 (.slice (some ⟨b4, o4, none⟩) es4.length 0)
                          simp only [List.setIfInBounds_toArray, List.set_cons_zero, List.set_cons_succ] at q1
                          have q2 := But.set V10a nb4 4 (.slice (some ⟨b4, o4, none⟩) es4.length 0)
                          have q3 : Below V10.heap.size V10 (V10a.setCell ⟨nb4, 4, none⟩ (.slice (some ⟨b4, o4, none⟩) es4.length 0)) := BB4.out.trans (q2.below (by omega) BB4.out.size)
                          generalize V10a.setCell ⟨nb4, 4, none⟩ (.slice (some ⟨b4, o4, none⟩) es4.length 0) = V10b at *
                          have LB4 := hiddenG (L10.out.trans (q3.mono L10.out.size))
                          have BKb4 := hiddenG (BK10.out.below q3)
                          have GRb4 := hiddenG (GR10.out.below q3)
                          have m0 := q1.cell (k := 0) rfl
                          have m1 := q1.cell (k := 1) rfl
                          have m2 := q1.cell (k := 2) rfl
                          have m3 := q1.cell (k := 3) rfl
                          have m4 := q1.cell (k := 4) rfl
                          simp only [List.getElem_toArray, List.getElem_cons_zero, List.getElem_cons_succ] at m0 m1 m2 m3 m4
                          clear q1 q2 q3 z4 fz4 NB4 OB4 BB4
                          have GRl4 : Hid (GrG V10b x1 d2 (some ⟨b3, o3, none⟩) (some ⟨b4, o4, none⟩) ⟨g.name, g.actors, (revG g).edges, (revG g).ins, es4⟩) := ⟨GRb4.out.A, GRb4.out.E, GRb4.out.I, (.inl (List.eq_nil_of_length_eq_zero HZ4.out)), GRb4.out.l1, GRb4.out.l2, GRb4.out.l3, (by show es4.length ≤ _; omega)⟩
                          go_upto_region 35 with (go_at_call 25; (with_reducible refine (CE4.out _ (some ⟨b4, o4, none⟩) 0 GRl4.out).mono ?_); rintro e V11 ⟨rfl, b9⟩; have L11 := hiddenG (LB4.out.trans (b9.mono LB4.out.size)); have BK11 := hiddenG (BKb4.out.below b9); have GR11 := hiddenG (GRb4.out.below b9); clear b9 m0 m1 m2 m3 m4)
                          clear LB4 BKb4 GRb4 GRl4 CE4 hl4 hi4 hE4
                          go_wp2_with (go_at_call 14; (with_reducible refine (AW.out _).mono ?_); rintro e VE ⟨rfl, ve⟩; have ME := hiddenG (L11.out.trans (ve.mono L11.out.size)); clear ve)
                          go_ret
                          exact ⟨rfl, ME.out⟩
                        · have hk42 : ¬ k4 = 1 := hk41
                          go_upto_region 32 with fail
                          have bb4 := (Below.refl V10.heap.size V10).alloc (Nat.le_refl _) (.cells #[.string (str g.name), .slice x1 g.actors.length d1, .slice d2 g.edges.length k2, .slice (some ⟨b3, o3, none⟩) g.ins.length k3, .slice (some ⟨b4, o4, none⟩) (es4.length + 1) k4] 31)
                          have NB4 := hiddenG (blkA_new 31 V10 #[.string (str g.name), .slice x1 g.actors.length d1, .slice d2 g.edges.length k2, .slice (some ⟨b3, o3, none⟩) g.ins.length k3, .slice (some ⟨b4, o4, none⟩) (es4.length + 1) k4])
                          obtain ⟨nb4, hnb4⟩ : ∃ q, V10.heap.size = q := ⟨_, rfl⟩
                          rw [hnb4] at NB4 ⊢
                          have OB4 := hiddenG (BK10.out.below bb4)
                          have BB4 := hiddenG bb4
                          generalize V10.alloc (.cells #[.string (str g.name), .slice x1 g.actors.length d1, .slice d2 g.edges.length k2, .slice (some ⟨b3, o3, none⟩) g.ins.length k3, .slice (some ⟨b4, o4, none⟩) (es4.length + 1) k4] 31) = V10a at *
                          clear bb4 z0 z1 z2 z3 z4
                          have z4 := OB4.out.cell (k := 4) rfl
                          simp only [List.getElem_toArray, List.getElem_cons_zero, List.getElem_cons_succ] at z4
                          rw [hl4] at z4
                          have m4 := NB4.out.cell (k := 4) rfl
                          simp only [List.getElem_toArray, List.getElem_cons_zero, List.getElem_cons_succ] at m4
                          have fz4 := NB4.out.frozen 4
                          go_upto_region 33 with fail
                          have q1 := NB4.out.set 4 (.slice (some ⟨b4, o4 + 3, none⟩) es4.length (k4 - 1))
                          simp only [List.setIfInBounds_toArray, List.set_cons_zero, List.set_cons_succ] at q1
                          have q2 := But.set V10a nb4 4 (.slice (some ⟨b4, o4 + 3, none⟩) es4.length (k4 - 1))
                          have q3 : Below V10.heap.size V10 (V10a.setCell ⟨nb4, 4, none⟩ (.slice (some ⟨b4, o4 + 3, none⟩) es4.length (k4 - 1))) := BB4.out.trans (q2.below (by omega) BB4.out.size)
                          generalize V10a.setCell ⟨nb4, 4, none⟩ (.slice (some ⟨b4, o4 + 3, none⟩) es4.length (k4 - 1)) = V10b at *
                          have LB4 := hiddenG (L10.out.trans (q3.mono L10.out.size))
                          have BKb4 := hiddenG (BK10.out.below q3)
                          have GRb4 := hiddenG (GR10.out.below q3)
                          have m0 := q1.cell (k := 0) rfl
                          have m1 := q1.cell (k := 1) rfl
                          have m2 := q1.cell (k := 2) rfl
                          have m3 := q1.cell (k := 3) rfl
                          have m4 := q1.cell (k := 4) rfl
                          simp only [List.getElem_toArray, List.getElem_cons_zero, List.getElem_cons_succ] at m0 m1 m2 m3 m4
                          clear q1 q2 q3 z4 fz4 NB4 OB4 BB4
                          have GRl4 : Hid (GrG V10b x1 d2 (some ⟨b3, o3, none⟩) (some ⟨b4, o4 + 3, none⟩) ⟨g.name, g.actors, (revG g).edges, (revG g).ins, es4⟩) := ⟨GRb4.out.A, GRb4.out.E, GRb4.out.I, (AtPt.tail (e := e4) (by have q := GRb4.out.O; rw [show (revG g).outs = e4 :: es4 from hE4] at q; exact q)), GRb4.out.l1, GRb4.out.l2, GRb4.out.l3, (by show es4.length ≤ _; omega)⟩
                          go_upto_region 35 with (go_at_call 25; (with_reducible refine (CE4.out _ (some ⟨b4, o4 + 3, none⟩) (k4 - 1) GRl4.out).mono ?_); rintro e V11 ⟨rfl, b9⟩; have L11 := hiddenG (LB4.out.trans (b9.mono LB4.out.size)); have BK11 := hiddenG (BKb4.out.below b9); have GR11 := hiddenG (GRb4.out.below b9); clear b9 m0 m1 m2 m3 m4)
                          clear LB4 BKb4 GRb4 GRl4 CE4 hl4 hi4 hE4
                          go_wp2_with (go_at_call 14; (with_reducible refine (AW.out _).mono ?_); rintro e VE ⟨rfl, ve⟩; have ME := hiddenG (L11.out.trans (ve.mono L11.out.size)); clear ve)
                          go_ret
                          exact ⟨rfl, ME.out⟩
                · have hl2 : g.edges.length = es2.length + 1 := by simpa using congrArg List.length hE2
                  have hi2 : (0 : Int) < (((es2.length + 1 : Nat)) : Int) := by omega
                  have CE2 : Hid (∀ U y kk, GrG U x1 y d3 d4 ⟨g.name, g.actors, es2, (revG g).ins, (revG g).outs⟩ → Calls Try.prog 25 #[.agg #[.string (str g.name), .slice x1 g.actors.length d1, .slice y es2.length kk, .slice d3 g.ins.length k3, .slice d4 g.outs.length k4]] U fun e w' => e = .returned (.int .i64 87) ∧ Below U.heap.size U w') := fun U y kk hg => by
                    have q := check_any ⟨g.name, g.actors, es2, (revG g).ins, (revG g).outs⟩ x1 y d3 d4 d1 kk k3 k4 U hg
                    have q0 : (firstF ⟨g.name, g.actors, es2, (revG g).ins, (revG g).outs⟩).code = 87 := less_E (g := revG g) SR.out hE2
                    rw [q0] at q
                    simp only [revG, List.length_reverse] at q
                    exact q
                  obtain ⟨b2, o2, hd2⟩ : ∃ b o, d2 = some ⟨b, o, none⟩ := by
                    rcases GR9.out.E with e | ⟨b, o, e, -⟩
                    · exact absurd (show g.edges.reverse = [] from e) (by rw [hE2]; exact List.cons_ne_nil _ _)
                    · exact ⟨b, o, e⟩
                  subst hd2
                  rw [hl2] at z2 hcp2
                  by_cases hk21 : k2 = 1
                  · subst hk21
                    have HZ2 : Hid (es2.length = 0) := by show _ = _; omega
                    clear hcp2
                    go_upto_region 22 with fail
                    have bb2 := (Below.refl V9.heap.size V9).alloc (Nat.le_refl _) (.cells #[.string (str g.name), .slice x1 g.actors.length d1, .slice (some ⟨b2, o2, none⟩) (es2.length + 1) 1, .slice d3 g.ins.length k3, .slice d4 g.outs.length k4] 31)
                    have NB2 := hiddenG (blkA_new 31 V9 #[.string (str g.name), .slice x1 g.actors.length d1, .slice (some ⟨b2, o2, none⟩) (es2.length + 1) 1, .slice d3 g.ins.length k3, .slice d4 g.outs.length k4])
                    obtain ⟨nb2, hnb2⟩ : ∃ q, V9.heap.size = q := ⟨_, rfl⟩
                    rw [hnb2] at NB2 ⊢
                    have OB2 := hiddenG (BK9.out.below bb2)
                    have BB2 := hiddenG bb2
                    generalize V9.alloc (.cells #[.string (str g.name), .slice x1 g.actors.length d1, .slice (some ⟨b2, o2, none⟩) (es2.length + 1) 1, .slice d3 g.ins.length k3, .slice d4 g.outs.length k4] 31) = V9a at *
                    clear bb2 z0 z1 z2 z3 z4
                    have z2 := OB2.out.cell (k := 2) rfl
                    simp only [List.getElem_toArray, List.getElem_cons_zero, List.getElem_cons_succ] at z2
                    rw [hl2] at z2
                    have m2 := NB2.out.cell (k := 2) rfl
                    simp only [List.getElem_toArray, List.getElem_cons_zero, List.getElem_cons_succ] at m2
                    have fz2 := NB2.out.frozen 2
                    go_upto_region 23 with fail
                    have q1 := NB2.out.set 2 (.slice (some ⟨b2, o2, none⟩) es2.length 0)
                    simp only [List.setIfInBounds_toArray, List.set_cons_zero, List.set_cons_succ] at q1
                    have q2 := But.set V9a nb2 2 (.slice (some ⟨b2, o2, none⟩) es2.length 0)
                    have q3 : Below V9.heap.size V9 (V9a.setCell ⟨nb2, 2, none⟩ (.slice (some ⟨b2, o2, none⟩) es2.length 0)) := BB2.out.trans (q2.below (by omega) BB2.out.size)
                    generalize V9a.setCell ⟨nb2, 2, none⟩ (.slice (some ⟨b2, o2, none⟩) es2.length 0) = V9b at *
                    have LB2 := hiddenG (L9.out.trans (q3.mono L9.out.size))
                    have BKb2 := hiddenG (BK9.out.below q3)
                    have GRb2 := hiddenG (GR9.out.below q3)
                    have m0 := q1.cell (k := 0) rfl
                    have m1 := q1.cell (k := 1) rfl
                    have m2 := q1.cell (k := 2) rfl
                    have m3 := q1.cell (k := 3) rfl
                    have m4 := q1.cell (k := 4) rfl
                    simp only [List.getElem_toArray, List.getElem_cons_zero, List.getElem_cons_succ] at m0 m1 m2 m3 m4
                    clear q1 q2 q3 z2 fz2 NB2 OB2 BB2
                    have GRl2 : Hid (GrG V9b x1 (some ⟨b2, o2, none⟩) d3 d4 ⟨g.name, g.actors, es2, (revG g).ins, (revG g).outs⟩) := ⟨GRb2.out.A, (.inl (List.eq_nil_of_length_eq_zero HZ2.out)), GRb2.out.I, GRb2.out.O, GRb2.out.l1, (by show es2.length ≤ _; omega), GRb2.out.l3, GRb2.out.l4⟩
                    go_upto_region 25 with (go_at_call 25; (with_reducible refine (CE2.out _ (some ⟨b2, o2, none⟩) 0 GRl2.out).mono ?_); rintro e V10 ⟨rfl, b9⟩; have L10 := hiddenG (LB2.out.trans (b9.mono LB2.out.size)); have BK10 := hiddenG (BKb2.out.below b9); have GR10 := hiddenG (GRb2.out.below b9); clear b9 m0 m1 m2 m3 m4)
                    clear LB2 BKb2 GRb2 GRl2 CE2 hl2 hi2 hE2
                    have z0 := BK10.out.cell (k := 0) rfl
                    have z1 := BK10.out.cell (k := 1) rfl
                    have z2 := BK10.out.cell (k := 2) rfl
                    have z3 := BK10.out.cell (k := 3) rfl
                    have z4 := BK10.out.cell (k := 4) rfl
                    simp only [List.getElem_toArray, List.getElem_cons_zero, List.getElem_cons_succ] at z0 z1 z2 z3 z4
                    rcases hE3 : g.ins.reverse with _ | ⟨e3, es3⟩
                    · have hl3 : g.ins.length = 0 := by simpa using congrArg List.length hE3
                      have hi3 : ¬ (0 : Int) < (g.ins.length : Int) := by omega
                      go_upto_region 30 with fail
                      clear z0 z1 z2 z3 z4 hl3 hi3 hE3
                      have z0 := BK10.out.cell (k := 0) rfl
                      have z1 := BK10.out.cell (k := 1) rfl
                      have z2 := BK10.out.cell (k := 2) rfl
                      have z3 := BK10.out.cell (k := 3) rfl
                      have z4 := BK10.out.cell (k := 4) rfl
                      simp only [List.getElem_toArray, List.getElem_cons_zero, List.getElem_cons_succ] at z0 z1 z2 z3 z4
                      rcases hE4 : g.outs.reverse with _ | ⟨e4, es4⟩
                      · have hl4 : g.outs.length = 0 := by simpa using congrArg List.length hE4
                        have hi4 : ¬ (0 : Int) < (g.outs.length : Int) := by omega
                        go_upto_region 35 with fail
                        clear z0 z1 z2 z3 z4 hl4 hi4 hE4
                        go_wp2_with (go_at_call 14; (with_reducible refine (AW.out _).mono ?_); rintro e VE ⟨rfl, ve⟩; have ME := hiddenG (L10.out.trans (ve.mono L10.out.size)); clear ve)
                        go_ret
                        exact ⟨rfl, ME.out⟩
                      · have hl4 : g.outs.length = es4.length + 1 := by simpa using congrArg List.length hE4
                        have hi4 : (0 : Int) < (((es4.length + 1 : Nat)) : Int) := by omega
                        have CE4 : Hid (∀ U y kk, GrG U x1 (some ⟨b2, o2, none⟩) d3 y ⟨g.name, g.actors, (revG g).edges, (revG g).ins, es4⟩ → Calls Try.prog 25 #[.agg #[.string (str g.name), .slice x1 g.actors.length d1, .slice (some ⟨b2, o2, none⟩) g.edges.length 1, .slice d3 g.ins.length k3, .slice y es4.length kk]] U fun e w' => e = .returned (.int .i64 87) ∧ Below U.heap.size U w') := fun U y kk hg => by
                          have q := check_any ⟨g.name, g.actors, (revG g).edges, (revG g).ins, es4⟩ x1 (some ⟨b2, o2, none⟩) d3 y d1 1 k3 kk U hg
                          have q0 : (firstF ⟨g.name, g.actors, (revG g).edges, (revG g).ins, es4⟩).code = 87 := less_O (g := revG g) SR.out hE4
                          rw [q0] at q
                          simp only [revG, List.length_reverse] at q
                          exact q
                        obtain ⟨b4, o4, hd4⟩ : ∃ b o, d4 = some ⟨b, o, none⟩ := by
                          rcases GR10.out.O with e | ⟨b, o, e, -⟩
                          · exact absurd (show g.outs.reverse = [] from e) (by rw [hE4]; exact List.cons_ne_nil _ _)
                          · exact ⟨b, o, e⟩
                        subst hd4
                        rw [hl4] at z4 hcp4
                        by_cases hk41 : k4 = 1
                        · subst hk41
                          have HZ4 : Hid (es4.length = 0) := by show _ = _; omega
                          clear hcp4
                          go_upto_region 32 with fail
                          have bb4 := (Below.refl V10.heap.size V10).alloc (Nat.le_refl _) (.cells #[.string (str g.name), .slice x1 g.actors.length d1, .slice (some ⟨b2, o2, none⟩) g.edges.length 1, .slice d3 g.ins.length k3, .slice (some ⟨b4, o4, none⟩) (es4.length + 1) 1] 31)
                          have NB4 := hiddenG (blkA_new 31 V10 #[.string (str g.name), .slice x1 g.actors.length d1, .slice (some ⟨b2, o2, none⟩) g.edges.length 1, .slice d3 g.ins.length k3, .slice (some ⟨b4, o4, none⟩) (es4.length + 1) 1])
                          obtain ⟨nb4, hnb4⟩ : ∃ q, V10.heap.size = q := ⟨_, rfl⟩
                          rw [hnb4] at NB4 ⊢
                          have OB4 := hiddenG (BK10.out.below bb4)
                          have BB4 := hiddenG bb4
                          generalize V10.alloc (.cells #[.string (str g.name), .slice x1 g.actors.length d1, .slice (some ⟨b2, o2, none⟩) g.edges.length 1, .slice d3 g.ins.length k3, .slice (some ⟨b4, o4, none⟩) (es4.length + 1) 1] 31) = V10a at *
                          clear bb4 z0 z1 z2 z3 z4
                          have z4 := OB4.out.cell (k := 4) rfl
                          simp only [List.getElem_toArray, List.getElem_cons_zero, List.getElem_cons_succ] at z4
                          rw [hl4] at z4
                          have m4 := NB4.out.cell (k := 4) rfl
                          simp only [List.getElem_toArray, List.getElem_cons_zero, List.getElem_cons_succ] at m4
                          have fz4 := NB4.out.frozen 4
                          go_upto_region 33 with fail
                          have q1 := NB4.out.set 4 (.slice (some ⟨b4, o4, none⟩) es4.length 0)
                          simp only [List.setIfInBounds_toArray, List.set_cons_zero, List.set_cons_succ] at q1
                          have q2 := But.set V10a nb4 4 (.slice (some ⟨b4, o4, none⟩) es4.length 0)
                          have q3 : Below V10.heap.size V10 (V10a.setCell ⟨nb4, 4, none⟩ (.slice (some ⟨b4, o4, none⟩) es4.length 0)) := BB4.out.trans (q2.below (by omega) BB4.out.size)
                          generalize V10a.setCell ⟨nb4, 4, none⟩ (.slice (some ⟨b4, o4, none⟩) es4.length 0) = V10b at *
                          have LB4 := hiddenG (L10.out.trans (q3.mono L10.out.size))
                          have BKb4 := hiddenG (BK10.out.below q3)
                          have GRb4 := hiddenG (GR10.out.below q3)
                          have m0 := q1.cell (k := 0) rfl
                          have m1 := q1.cell (k := 1) rfl
                          have m2 := q1.cell (k := 2) rfl
                          have m3 := q1.cell (k := 3) rfl
                          have m4 := q1.cell (k := 4) rfl
                          simp only [List.getElem_toArray, List.getElem_cons_zero, List.getElem_cons_succ] at m0 m1 m2 m3 m4
                          clear q1 q2 q3 z4 fz4 NB4 OB4 BB4
                          have GRl4 : Hid (GrG V10b x1 (some ⟨b2, o2, none⟩) d3 (some ⟨b4, o4, none⟩) ⟨g.name, g.actors, (revG g).edges, (revG g).ins, es4⟩) := ⟨GRb4.out.A, GRb4.out.E, GRb4.out.I, (.inl (List.eq_nil_of_length_eq_zero HZ4.out)), GRb4.out.l1, GRb4.out.l2, GRb4.out.l3, (by show es4.length ≤ _; omega)⟩
                          go_upto_region 35 with (go_at_call 25; (with_reducible refine (CE4.out _ (some ⟨b4, o4, none⟩) 0 GRl4.out).mono ?_); rintro e V11 ⟨rfl, b9⟩; have L11 := hiddenG (LB4.out.trans (b9.mono LB4.out.size)); have BK11 := hiddenG (BKb4.out.below b9); have GR11 := hiddenG (GRb4.out.below b9); clear b9 m0 m1 m2 m3 m4)
                          clear LB4 BKb4 GRb4 GRl4 CE4 hl4 hi4 hE4
                          go_wp2_with (go_at_call 14; (with_reducible refine (AW.out _).mono ?_); rintro e VE ⟨rfl, ve⟩; have ME := hiddenG (L11.out.trans (ve.mono L11.out.size)); clear ve)
                          go_ret
                          exact ⟨rfl, ME.out⟩
                        · have hk42 : ¬ k4 = 1 := hk41
                          go_upto_region 32 with fail
                          have bb4 := (Below.refl V10.heap.size V10).alloc (Nat.le_refl _) (.cells #[.string (str g.name), .slice x1 g.actors.length d1, .slice (some ⟨b2, o2, none⟩) g.edges.length 1, .slice d3 g.ins.length k3, .slice (some ⟨b4, o4, none⟩) (es4.length + 1) k4] 31)
                          have NB4 := hiddenG (blkA_new 31 V10 #[.string (str g.name), .slice x1 g.actors.length d1, .slice (some ⟨b2, o2, none⟩) g.edges.length 1, .slice d3 g.ins.length k3, .slice (some ⟨b4, o4, none⟩) (es4.length + 1) k4])
                          obtain ⟨nb4, hnb4⟩ : ∃ q, V10.heap.size = q := ⟨_, rfl⟩
                          rw [hnb4] at NB4 ⊢
                          have OB4 := hiddenG (BK10.out.below bb4)
                          have BB4 := hiddenG bb4
                          generalize V10.alloc (.cells #[.string (str g.name), .slice x1 g.actors.length d1, .slice (some ⟨b2, o2, none⟩) g.edges.length 1, .slice d3 g.ins.length k3, .slice (some ⟨b4, o4, none⟩) (es4.length + 1) k4] 31) = V10a at *
                          clear bb4 z0 z1 z2 z3 z4
                          have z4 := OB4.out.cell (k := 4) rfl
                          simp only [List.getElem_toArray, List.getElem_cons_zero, List.getElem_cons_succ] at z4
                          rw [hl4] at z4
                          have m4 := NB4.out.cell (k := 4) rfl
                          simp only [List.getElem_toArray, List.getElem_cons_zero, List.getElem_cons_succ] at m4
                          have fz4 := NB4.out.frozen 4
                          go_upto_region 33 with fail
                          have q1 := NB4.out.set 4 (.slice (some ⟨b4, o4 + 3, none⟩) es4.length (k4 - 1))
                          simp only [List.setIfInBounds_toArray, List.set_cons_zero, List.set_cons_succ] at q1
                          have q2 := But.set V10a nb4 4 (.slice (some ⟨b4, o4 + 3, none⟩) es4.length (k4 - 1))
                          have q3 : Below V10.heap.size V10 (V10a.setCell ⟨nb4, 4, none⟩ (.slice (some ⟨b4, o4 + 3, none⟩) es4.length (k4 - 1))) := BB4.out.trans (q2.below (by omega) BB4.out.size)
                          generalize V10a.setCell ⟨nb4, 4, none⟩ (.slice (some ⟨b4, o4 + 3, none⟩) es4.length (k4 - 1)) = V10b at *
                          have LB4 := hiddenG (L10.out.trans (q3.mono L10.out.size))
                          have BKb4 := hiddenG (BK10.out.below q3)
                          have GRb4 := hiddenG (GR10.out.below q3)
                          have m0 := q1.cell (k := 0) rfl
                          have m1 := q1.cell (k := 1) rfl
                          have m2 := q1.cell (k := 2) rfl
                          have m3 := q1.cell (k := 3) rfl
                          have m4 := q1.cell (k := 4) rfl
                          simp only [List.getElem_toArray, List.getElem_cons_zero, List.getElem_cons_succ] at m0 m1 m2 m3 m4
                          clear q1 q2 q3 z4 fz4 NB4 OB4 BB4
                          have GRl4 : Hid (GrG V10b x1 (some ⟨b2, o2, none⟩) d3 (some ⟨b4, o4 + 3, none⟩) ⟨g.name, g.actors, (revG g).edges, (revG g).ins, es4⟩) := ⟨GRb4.out.A, GRb4.out.E, GRb4.out.I, (AtPt.tail (e := e4) (by have q := GRb4.out.O; rw [show (revG g).outs = e4 :: es4 from hE4] at q; exact q)), GRb4.out.l1, GRb4.out.l2, GRb4.out.l3, (by show es4.length ≤ _; omega)⟩
                          go_upto_region 35 with (go_at_call 25; (with_reducible refine (CE4.out _ (some ⟨b4, o4 + 3, none⟩) (k4 - 1) GRl4.out).mono ?_); rintro e V11 ⟨rfl, b9⟩; have L11 := hiddenG (LB4.out.trans (b9.mono LB4.out.size)); have BK11 := hiddenG (BKb4.out.below b9); have GR11 := hiddenG (GRb4.out.below b9); clear b9 m0 m1 m2 m3 m4)
                          clear LB4 BKb4 GRb4 GRl4 CE4 hl4 hi4 hE4
                          go_wp2_with (go_at_call 14; (with_reducible refine (AW.out _).mono ?_); rintro e VE ⟨rfl, ve⟩; have ME := hiddenG (L11.out.trans (ve.mono L11.out.size)); clear ve)
                          go_ret
                          exact ⟨rfl, ME.out⟩
                    · have hl3 : g.ins.length = es3.length + 1 := by simpa using congrArg List.length hE3
                      have hi3 : (0 : Int) < (((es3.length + 1 : Nat)) : Int) := by omega
                      have CE3 : Hid (∀ U y kk, GrG U x1 (some ⟨b2, o2, none⟩) y d4 ⟨g.name, g.actors, (revG g).edges, es3, (revG g).outs⟩ → Calls Try.prog 25 #[.agg #[.string (str g.name), .slice x1 g.actors.length d1, .slice (some ⟨b2, o2, none⟩) g.edges.length 1, .slice y es3.length kk, .slice d4 g.outs.length k4]] U fun e w' => e = .returned (.int .i64 87) ∧ Below U.heap.size U w') := fun U y kk hg => by
                        have q := check_any ⟨g.name, g.actors, (revG g).edges, es3, (revG g).outs⟩ x1 (some ⟨b2, o2, none⟩) y d4 d1 1 kk k4 U hg
                        have q0 : (firstF ⟨g.name, g.actors, (revG g).edges, es3, (revG g).outs⟩).code = 87 := less_I (g := revG g) SR.out hE3
                        rw [q0] at q
                        simp only [revG, List.length_reverse] at q
                        exact q
                      obtain ⟨b3, o3, hd3⟩ : ∃ b o, d3 = some ⟨b, o, none⟩ := by
                        rcases GR10.out.I with e | ⟨b, o, e, -⟩
                        · exact absurd (show g.ins.reverse = [] from e) (by rw [hE3]; exact List.cons_ne_nil _ _)
                        · exact ⟨b, o, e⟩
                      subst hd3
                      rw [hl3] at z3 hcp3
                      by_cases hk31 : k3 = 1
                      · subst hk31
                        have HZ3 : Hid (es3.length = 0) := by show _ = _; omega
                        clear hcp3
                        go_upto_region 27 with fail
                        have bb3 := (Below.refl V10.heap.size V10).alloc (Nat.le_refl _) (.cells #[.string (str g.name), .slice x1 g.actors.length d1, .slice (some ⟨b2, o2, none⟩) g.edges.length 1, .slice (some ⟨b3, o3, none⟩) (es3.length + 1) 1, .slice d4 g.outs.length k4] 31)
                        have NB3 := hiddenG (blkA_new 31 V10 #[.string (str g.name), .slice x1 g.actors.length d1, .slice (some ⟨b2, o2, none⟩) g.edges.length 1, .slice (some ⟨b3, o3, none⟩) (es3.length + 1) 1, .slice d4 g.outs.length k4])
                        obtain ⟨nb3, hnb3⟩ : ∃ q, V10.heap.size = q := ⟨_, rfl⟩
                        rw [hnb3] at NB3 ⊢
                        have OB3 := hiddenG (BK10.out.below bb3)
                        have BB3 := hiddenG bb3
                        generalize V10.alloc (.cells #[.string (str g.name), .slice x1 g.actors.length d1, .slice (some ⟨b2, o2, none⟩) g.edges.length 1, .slice (some ⟨b3, o3, none⟩) (es3.length + 1) 1, .slice d4 g.outs.length k4] 31) = V10a at *
                        clear bb3 z0 z1 z2 z3 z4
                        have z3 := OB3.out.cell (k := 3) rfl
                        simp only [List.getElem_toArray, List.getElem_cons_zero, List.getElem_cons_succ] at z3
                        rw [hl3] at z3
                        have m3 := NB3.out.cell (k := 3) rfl
                        simp only [List.getElem_toArray, List.getElem_cons_zero, List.getElem_cons_succ] at m3
                        have fz3 := NB3.out.frozen 3
                        go_upto_region 28 with fail
                        have q1 := NB3.out.set 3 (.slice (some ⟨b3, o3, none⟩) es3.length 0)
                        simp only [List.setIfInBounds_toArray, List.set_cons_zero, List.set_cons_succ] at q1
                        have q2 := But.set V10a nb3 3 (.slice (some ⟨b3, o3, none⟩) es3.length 0)
                        have q3 : Below V10.heap.size V10 (V10a.setCell ⟨nb3, 3, none⟩ (.slice (some ⟨b3, o3, none⟩) es3.length 0)) := BB3.out.trans (q2.below (by omega) BB3.out.size)
                        generalize V10a.setCell ⟨nb3, 3, none⟩ (.slice (some ⟨b3, o3, none⟩) es3.length 0) = V10b at *
                        have LB3 := hiddenG (L10.out.trans (q3.mono L10.out.size))
                        have BKb3 := hiddenG (BK10.out.below q3)
                        have GRb3 := hiddenG (GR10.out.below q3)
                        have m0 := q1.cell (k := 0) rfl
                        have m1 := q1.cell (k := 1) rfl
                        have m2 := q1.cell (k := 2) rfl
                        have m3 := q1.cell (k := 3) rfl
                        have m4 := q1.cell (k := 4) rfl
                        simp only [List.getElem_toArray, List.getElem_cons_zero, List.getElem_cons_succ] at m0 m1 m2 m3 m4
                        clear q1 q2 q3 z3 fz3 NB3 OB3 BB3
                        have GRl3 : Hid (GrG V10b x1 (some ⟨b2, o2, none⟩) (some ⟨b3, o3, none⟩) d4 ⟨g.name, g.actors, (revG g).edges, es3, (revG g).outs⟩) := ⟨GRb3.out.A, GRb3.out.E, (.inl (List.eq_nil_of_length_eq_zero HZ3.out)), GRb3.out.O, GRb3.out.l1, GRb3.out.l2, (by show es3.length ≤ _; omega), GRb3.out.l4⟩
                        go_upto_region 30 with (go_at_call 25; (with_reducible refine (CE3.out _ (some ⟨b3, o3, none⟩) 0 GRl3.out).mono ?_); rintro e V11 ⟨rfl, b9⟩; have L11 := hiddenG (LB3.out.trans (b9.mono LB3.out.size)); have BK11 := hiddenG (BKb3.out.below b9); have GR11 := hiddenG (GRb3.out.below b9); clear b9 m0 m1 m2 m3 m4)
                        clear LB3 BKb3 GRb3 GRl3 CE3 hl3 hi3 hE3
                        have z0 := BK11.out.cell (k := 0) rfl
                        have z1 := BK11.out.cell (k := 1) rfl
                        have z2 := BK11.out.cell (k := 2) rfl
                        have z3 := BK11.out.cell (k := 3) rfl
                        have z4 := BK11.out.cell (k := 4) rfl
                        simp only [List.getElem_toArray, List.getElem_cons_zero, List.getElem_cons_succ] at z0 z1 z2 z3 z4
                        rcases hE4 : g.outs.reverse with _ | ⟨e4, es4⟩
                        · have hl4 : g.outs.length = 0 := by simpa using congrArg List.length hE4
                          have hi4 : ¬ (0 : Int) < (g.outs.length : Int) := by omega
                          go_upto_region 35 with fail
                          clear z0 z1 z2 z3 z4 hl4 hi4 hE4
                          go_wp2_with (go_at_call 14; (with_reducible refine (AW.out _).mono ?_); rintro e VE ⟨rfl, ve⟩; have ME := hiddenG (L11.out.trans (ve.mono L11.out.size)); clear ve)
                          go_ret
                          exact ⟨rfl, ME.out⟩
                        · have hl4 : g.outs.length = es4.length + 1 := by simpa using congrArg List.length hE4
                          have hi4 : (0 : Int) < (((es4.length + 1 : Nat)) : Int) := by omega
                          have CE4 : Hid (∀ U y kk, GrG U x1 (some ⟨b2, o2, none⟩) (some ⟨b3, o3, none⟩) y ⟨g.name, g.actors, (revG g).edges, (revG g).ins, es4⟩ → Calls Try.prog 25 #[.agg #[.string (str g.name), .slice x1 g.actors.length d1, .slice (some ⟨b2, o2, none⟩) g.edges.length 1, .slice (some ⟨b3, o3, none⟩) g.ins.length 1, .slice y es4.length kk]] U fun e w' => e = .returned (.int .i64 87) ∧ Below U.heap.size U w') := fun U y kk hg => by
                            have q := check_any ⟨g.name, g.actors, (revG g).edges, (revG g).ins, es4⟩ x1 (some ⟨b2, o2, none⟩) (some ⟨b3, o3, none⟩) y d1 1 1 kk U hg
                            have q0 : (firstF ⟨g.name, g.actors, (revG g).edges, (revG g).ins, es4⟩).code = 87 := less_O (g := revG g) SR.out hE4
                            rw [q0] at q
                            simp only [revG, List.length_reverse] at q
                            exact q
                          obtain ⟨b4, o4, hd4⟩ : ∃ b o, d4 = some ⟨b, o, none⟩ := by
                            rcases GR11.out.O with e | ⟨b, o, e, -⟩
                            · exact absurd (show g.outs.reverse = [] from e) (by rw [hE4]; exact List.cons_ne_nil _ _)
                            · exact ⟨b, o, e⟩
                          subst hd4
                          rw [hl4] at z4 hcp4
                          by_cases hk41 : k4 = 1
                          · subst hk41
                            have HZ4 : Hid (es4.length = 0) := by show _ = _; omega
                            clear hcp4
                            go_upto_region 32 with fail
                            have bb4 := (Below.refl V11.heap.size V11).alloc (Nat.le_refl _) (.cells #[.string (str g.name), .slice x1 g.actors.length d1, .slice (some ⟨b2, o2, none⟩) g.edges.length 1, .slice (some ⟨b3, o3, none⟩) g.ins.length 1, .slice (some ⟨b4, o4, none⟩) (es4.length + 1) 1] 31)
                            have NB4 := hiddenG (blkA_new 31 V11 #[.string (str g.name), .slice x1 g.actors.length d1, .slice (some ⟨b2, o2, none⟩) g.edges.length 1, .slice (some ⟨b3, o3, none⟩) g.ins.length 1, .slice (some ⟨b4, o4, none⟩) (es4.length + 1) 1])
                            obtain ⟨nb4, hnb4⟩ : ∃ q, V11.heap.size = q := ⟨_, rfl⟩
                            rw [hnb4] at NB4 ⊢
                            have OB4 := hiddenG (BK11.out.below bb4)
                            have BB4 := hiddenG bb4
                            generalize V11.alloc (.cells #[.string (str g.name), .slice x1 g.actors.length d1, .slice (some ⟨b2, o2, none⟩) g.edges.length 1, .slice (some ⟨b3, o3, none⟩) g.ins.length 1, .slice (some ⟨b4, o4, none⟩) (es4.length + 1) 1] 31) = V11a at *
                            clear bb4 z0 z1 z2 z3 z4
                            have z4 := OB4.out.cell (k := 4) rfl
                            simp only [List.getElem_toArray, List.getElem_cons_zero, List.getElem_cons_succ] at z4
                            rw [hl4] at z4
                            have m4 := NB4.out.cell (k := 4) rfl
                            simp only [List.getElem_toArray, List.getElem_cons_zero, List.getElem_cons_succ] at m4
                            have fz4 := NB4.out.frozen 4
                            go_upto_region 33 with fail
                            have q1 := NB4.out.set 4 (.slice (some ⟨b4, o4, none⟩) es4.length 0)
                            simp only [List.setIfInBounds_toArray, List.set_cons_zero, List.set_cons_succ] at q1
                            have q2 := But.set V11a nb4 4 (.slice (some ⟨b4, o4, none⟩) es4.length 0)
                            have q3 : Below V11.heap.size V11 (V11a.setCell ⟨nb4, 4, none⟩ (.slice (some ⟨b4, o4, none⟩) es4.length 0)) := BB4.out.trans (q2.below (by omega) BB4.out.size)
                            generalize V11a.setCell ⟨nb4, 4, none⟩ (.slice (some ⟨b4, o4, none⟩) es4.length 0) = V11b at *
                            have LB4 := hiddenG (L11.out.trans (q3.mono L11.out.size))
                            have BKb4 := hiddenG (BK11.out.below q3)
                            have GRb4 := hiddenG (GR11.out.below q3)
                            have m0 := q1.cell (k := 0) rfl
                            have m1 := q1.cell (k := 1) rfl
                            have m2 := q1.cell (k := 2) rfl
                            have m3 := q1.cell (k := 3) rfl
                            have m4 := q1.cell (k := 4) rfl
                            simp only [List.getElem_toArray, List.getElem_cons_zero, List.getElem_cons_succ] at m0 m1 m2 m3 m4
                            clear q1 q2 q3 z4 fz4 NB4 OB4 BB4
                            have GRl4 : Hid (GrG V11b x1 (some ⟨b2, o2, none⟩) (some ⟨b3, o3, none⟩) (some ⟨b4, o4, none⟩) ⟨g.name, g.actors, (revG g).edges, (revG g).ins, es4⟩) := ⟨GRb4.out.A, GRb4.out.E, GRb4.out.I, (.inl (List.eq_nil_of_length_eq_zero HZ4.out)), GRb4.out.l1, GRb4.out.l2, GRb4.out.l3, (by show es4.length ≤ _; omega)⟩
                            go_upto_region 35 with (go_at_call 25; (with_reducible refine (CE4.out _ (some ⟨b4, o4, none⟩) 0 GRl4.out).mono ?_); rintro e V12 ⟨rfl, b9⟩; have L12 := hiddenG (LB4.out.trans (b9.mono LB4.out.size)); have BK12 := hiddenG (BKb4.out.below b9); have GR12 := hiddenG (GRb4.out.below b9); clear b9 m0 m1 m2 m3 m4)
                            clear LB4 BKb4 GRb4 GRl4 CE4 hl4 hi4 hE4
                            go_wp2_with (go_at_call 14; (with_reducible refine (AW.out _).mono ?_); rintro e VE ⟨rfl, ve⟩; have ME := hiddenG (L12.out.trans (ve.mono L12.out.size)); clear ve)
                            go_ret
                            exact ⟨rfl, ME.out⟩
                          · have hk42 : ¬ k4 = 1 := hk41
                            go_upto_region 32 with fail
                            have bb4 := (Below.refl V11.heap.size V11).alloc (Nat.le_refl _) (.cells #[.string (str g.name), .slice x1 g.actors.length d1, .slice (some ⟨b2, o2, none⟩) g.edges.length 1, .slice (some ⟨b3, o3, none⟩) g.ins.length 1, .slice (some ⟨b4, o4, none⟩) (es4.length + 1) k4] 31)
                            have NB4 := hiddenG (blkA_new 31 V11 #[.string (str g.name), .slice x1 g.actors.length d1, .slice (some ⟨b2, o2, none⟩) g.edges.length 1, .slice (some ⟨b3, o3, none⟩) g.ins.length 1, .slice (some ⟨b4, o4, none⟩) (es4.length + 1) k4])
                            obtain ⟨nb4, hnb4⟩ : ∃ q, V11.heap.size = q := ⟨_, rfl⟩
                            rw [hnb4] at NB4 ⊢
                            have OB4 := hiddenG (BK11.out.below bb4)
                            have BB4 := hiddenG bb4
                            generalize V11.alloc (.cells #[.string (str g.name), .slice x1 g.actors.length d1, .slice (some ⟨b2, o2, none⟩) g.edges.length 1, .slice (some ⟨b3, o3, none⟩) g.ins.length 1, .slice (some ⟨b4, o4, none⟩) (es4.length + 1) k4] 31) = V11a at *
                            clear bb4 z0 z1 z2 z3 z4
                            have z4 := OB4.out.cell (k := 4) rfl
                            simp only [List.getElem_toArray, List.getElem_cons_zero, List.getElem_cons_succ] at z4
                            rw [hl4] at z4
                            have m4 := NB4.out.cell (k := 4) rfl
                            simp only [List.getElem_toArray, List.getElem_cons_zero, List.getElem_cons_succ] at m4
                            have fz4 := NB4.out.frozen 4
                            go_upto_region 33 with fail
                            have q1 := NB4.out.set 4 (.slice (some ⟨b4, o4 + 3, none⟩) es4.length (k4 - 1))
                            simp only [List.setIfInBounds_toArray, List.set_cons_zero, List.set_cons_succ] at q1
                            have q2 := But.set V11a nb4 4 (.slice (some ⟨b4, o4 + 3, none⟩) es4.length (k4 - 1))
                            have q3 : Below V11.heap.size V11 (V11a.setCell ⟨nb4, 4, none⟩ (.slice (some ⟨b4, o4 + 3, none⟩) es4.length (k4 - 1))) := BB4.out.trans (q2.below (by omega) BB4.out.size)
                            generalize V11a.setCell ⟨nb4, 4, none⟩ (.slice (some ⟨b4, o4 + 3, none⟩) es4.length (k4 - 1)) = V11b at *
                            have LB4 := hiddenG (L11.out.trans (q3.mono L11.out.size))
                            have BKb4 := hiddenG (BK11.out.below q3)
                            have GRb4 := hiddenG (GR11.out.below q3)
                            have m0 := q1.cell (k := 0) rfl
                            have m1 := q1.cell (k := 1) rfl
                            have m2 := q1.cell (k := 2) rfl
                            have m3 := q1.cell (k := 3) rfl
                            have m4 := q1.cell (k := 4) rfl
                            simp only [List.getElem_toArray, List.getElem_cons_zero, List.getElem_cons_succ] at m0 m1 m2 m3 m4
                            clear q1 q2 q3 z4 fz4 NB4 OB4 BB4
                            have GRl4 : Hid (GrG V11b x1 (some ⟨b2, o2, none⟩) (some ⟨b3, o3, none⟩) (some ⟨b4, o4 + 3, none⟩) ⟨g.name, g.actors, (revG g).edges, (revG g).ins, es4⟩) := ⟨GRb4.out.A, GRb4.out.E, GRb4.out.I, (AtPt.tail (e := e4) (by have q := GRb4.out.O; rw [show (revG g).outs = e4 :: es4 from hE4] at q; exact q)), GRb4.out.l1, GRb4.out.l2, GRb4.out.l3, (by show es4.length ≤ _; omega)⟩
                            go_upto_region 35 with (go_at_call 25; (with_reducible refine (CE4.out _ (some ⟨b4, o4 + 3, none⟩) (k4 - 1) GRl4.out).mono ?_); rintro e V12 ⟨rfl, b9⟩; have L12 := hiddenG (LB4.out.trans (b9.mono LB4.out.size)); have BK12 := hiddenG (BKb4.out.below b9); have GR12 := hiddenG (GRb4.out.below b9); clear b9 m0 m1 m2 m3 m4)
                            clear LB4 BKb4 GRb4 GRl4 CE4 hl4 hi4 hE4
                            go_wp2_with (go_at_call 14; (with_reducible refine (AW.out _).mono ?_); rintro e VE ⟨rfl, ve⟩; have ME := hiddenG (L12.out.trans (ve.mono L12.out.size)); clear ve)
                            go_ret
                            exact ⟨rfl, ME.out⟩
                      · have hk32 : ¬ k3 = 1 := hk31
                        go_upto_region 27 with fail
                        have bb3 := (Below.refl V10.heap.size V10).alloc (Nat.le_refl _) (.cells #[.string (str g.name), .slice x1 g.actors.length d1, .slice (some ⟨b2, o2, none⟩) g.edges.length 1, .slice (some ⟨b3, o3, none⟩) (es3.length + 1) k3, .slice d4 g.outs.length k4] 31)
                        have NB3 := hiddenG (blkA_new 31 V10 #[.string (str g.name), .slice x1 g.actors.length d1, .slice (some ⟨b2, o2, none⟩) g.edges.length 1, .slice (some ⟨b3, o3, none⟩) (es3.length + 1) k3, .slice d4 g.outs.length k4])
                        obtain ⟨nb3, hnb3⟩ : ∃ q, V10.heap.size = q := ⟨_, rfl⟩
                        rw [hnb3] at NB3 ⊢
                        have OB3 := hiddenG (BK10.out.below bb3)
                        have BB3 := hiddenG bb3
                        generalize V10.alloc (.cells #[.string (str g.name), .slice x1 g.actors.length d1, .slice (some ⟨b2, o2, none⟩) g.edges.length 1, .slice (some ⟨b3, o3, none⟩) (es3.length + 1) k3, .slice d4 g.outs.length k4] 31) = V10a at *
                        clear bb3 z0 z1 z2 z3 z4
                        have z3 := OB3.out.cell (k := 3) rfl
                        simp only [List.getElem_toArray, List.getElem_cons_zero, List.getElem_cons_succ] at z3
                        rw [hl3] at z3
                        have m3 := NB3.out.cell (k := 3) rfl
                        simp only [List.getElem_toArray, List.getElem_cons_zero, List.getElem_cons_succ] at m3
                        have fz3 := NB3.out.frozen 3
                        go_upto_region 28 with fail
                        have q1 := NB3.out.set 3 (.slice (some ⟨b3, o3 + 3, none⟩) es3.length (k3 - 1))
                        simp only [List.setIfInBounds_toArray, List.set_cons_zero, List.set_cons_succ] at q1
                        have q2 := But.set V10a nb3 3 (.slice (some ⟨b3, o3 + 3, none⟩) es3.length (k3 - 1))
                        have q3 : Below V10.heap.size V10 (V10a.setCell ⟨nb3, 3, none⟩ (.slice (some ⟨b3, o3 + 3, none⟩) es3.length (k3 - 1))) := BB3.out.trans (q2.below (by omega) BB3.out.size)
                        generalize V10a.setCell ⟨nb3, 3, none⟩ (.slice (some ⟨b3, o3 + 3, none⟩) es3.length (k3 - 1)) = V10b at *
                        have LB3 := hiddenG (L10.out.trans (q3.mono L10.out.size))
                        have BKb3 := hiddenG (BK10.out.below q3)
                        have GRb3 := hiddenG (GR10.out.below q3)
                        have m0 := q1.cell (k := 0) rfl
                        have m1 := q1.cell (k := 1) rfl
                        have m2 := q1.cell (k := 2) rfl
                        have m3 := q1.cell (k := 3) rfl
                        have m4 := q1.cell (k := 4) rfl
                        simp only [List.getElem_toArray, List.getElem_cons_zero, List.getElem_cons_succ] at m0 m1 m2 m3 m4
                        clear q1 q2 q3 z3 fz3 NB3 OB3 BB3
                        have GRl3 : Hid (GrG V10b x1 (some ⟨b2, o2, none⟩) (some ⟨b3, o3 + 3, none⟩) d4 ⟨g.name, g.actors, (revG g).edges, es3, (revG g).outs⟩) := ⟨GRb3.out.A, GRb3.out.E, (AtPt.tail (e := e3) (by have q := GRb3.out.I; rw [show (revG g).ins = e3 :: es3 from hE3] at q; exact q)), GRb3.out.O, GRb3.out.l1, GRb3.out.l2, (by show es3.length ≤ _; omega), GRb3.out.l4⟩
                        go_upto_region 30 with (go_at_call 25; (with_reducible refine (CE3.out _ (some ⟨b3, o3 + 3, none⟩) (k3 - 1) GRl3.out).mono ?_); rintro e V11 ⟨rfl, b9⟩; have L11 := hiddenG (LB3.out.trans (b9.mono LB3.out.size)); have BK11 := hiddenG (BKb3.out.below b9); have GR11 := hiddenG (GRb3.out.below b9); clear b9 m0 m1 m2 m3 m4)
                        clear LB3 BKb3 GRb3 GRl3 CE3 hl3 hi3 hE3
                        have z0 := BK11.out.cell (k := 0) rfl
                        have z1 := BK11.out.cell (k := 1) rfl
                        have z2 := BK11.out.cell (k := 2) rfl
                        have z3 := BK11.out.cell (k := 3) rfl
                        have z4 := BK11.out.cell (k := 4) rfl
                        simp only [List.getElem_toArray, List.getElem_cons_zero, List.getElem_cons_succ] at z0 z1 z2 z3 z4
                        rcases hE4 : g.outs.reverse with _ | ⟨e4, es4⟩
                        · have hl4 : g.outs.length = 0 := by simpa using congrArg List.length hE4
                          have hi4 : ¬ (0 : Int) < (g.outs.length : Int) := by omega
                          go_upto_region 35 with fail
                          clear z0 z1 z2 z3 z4 hl4 hi4 hE4
                          go_wp2_with (go_at_call 14; (with_reducible refine (AW.out _).mono ?_); rintro e VE ⟨rfl, ve⟩; have ME := hiddenG (L11.out.trans (ve.mono L11.out.size)); clear ve)
                          go_ret
                          exact ⟨rfl, ME.out⟩
                        · have hl4 : g.outs.length = es4.length + 1 := by simpa using congrArg List.length hE4
                          have hi4 : (0 : Int) < (((es4.length + 1 : Nat)) : Int) := by omega
                          have CE4 : Hid (∀ U y kk, GrG U x1 (some ⟨b2, o2, none⟩) (some ⟨b3, o3, none⟩) y ⟨g.name, g.actors, (revG g).edges, (revG g).ins, es4⟩ → Calls Try.prog 25 #[.agg #[.string (str g.name), .slice x1 g.actors.length d1, .slice (some ⟨b2, o2, none⟩) g.edges.length 1, .slice (some ⟨b3, o3, none⟩) g.ins.length k3, .slice y es4.length kk]] U fun e w' => e = .returned (.int .i64 87) ∧ Below U.heap.size U w') := fun U y kk hg => by
                            have q := check_any ⟨g.name, g.actors, (revG g).edges, (revG g).ins, es4⟩ x1 (some ⟨b2, o2, none⟩) (some ⟨b3, o3, none⟩) y d1 1 k3 kk U hg
                            have q0 : (firstF ⟨g.name, g.actors, (revG g).edges, (revG g).ins, es4⟩).code = 87 := less_O (g := revG g) SR.out hE4
                            rw [q0] at q
                            simp only [revG, List.length_reverse] at q
                            exact q
                          obtain ⟨b4, o4, hd4⟩ : ∃ b o, d4 = some ⟨b, o, none⟩ := by
                            rcases GR11.out.O with e | ⟨b, o, e, -⟩
                            · exact absurd (show g.outs.reverse = [] from e) (by rw [hE4]; exact List.cons_ne_nil _ _)
                            · exact ⟨b, o, e⟩
                          subst hd4
                          rw [hl4] at z4 hcp4
                          by_cases hk41 : k4 = 1
                          · subst hk41
                            have HZ4 : Hid (es4.length = 0) := by show _ = _; omega
                            clear hcp4
                            go_upto_region 32 with fail
                            have bb4 := (Below.refl V11.heap.size V11).alloc (Nat.le_refl _) (.cells #[.string (str g.name), .slice x1 g.actors.length d1, .slice (some ⟨b2, o2, none⟩) g.edges.length 1, .slice (some ⟨b3, o3, none⟩) g.ins.length k3, .slice (some ⟨b4, o4, none⟩) (es4.length + 1) 1] 31)
                            have NB4 := hiddenG (blkA_new 31 V11 #[.string (str g.name), .slice x1 g.actors.length d1, .slice (some ⟨b2, o2, none⟩) g.edges.length 1, .slice (some ⟨b3, o3, none⟩) g.ins.length k3, .slice (some ⟨b4, o4, none⟩) (es4.length + 1) 1])
                            obtain ⟨nb4, hnb4⟩ : ∃ q, V11.heap.size = q := ⟨_, rfl⟩
                            rw [hnb4] at NB4 ⊢
                            have OB4 := hiddenG (BK11.out.below bb4)
                            have BB4 := hiddenG bb4
                            generalize V11.alloc (.cells #[.string (str g.name), .slice x1 g.actors.length d1, .slice (some ⟨b2, o2, none⟩) g.edges.length 1, .slice (some ⟨b3, o3, none⟩) g.ins.length k3, .slice (some ⟨b4, o4, none⟩) (es4.length + 1) 1] 31) = V11a at *
                            clear bb4 z0 z1 z2 z3 z4
                            have z4 := OB4.out.cell (k := 4) rfl
                            simp only [List.getElem_toArray, List.getElem_cons_zero, List.getElem_cons_succ] at z4
                            rw [hl4] at z4
                            have m4 := NB4.out.cell (k := 4) rfl
                            simp only [List.getElem_toArray, List.getElem_cons_zero, List.getElem_cons_succ] at m4
                            have fz4 := NB4.out.frozen 4
                            go_upto_region 33 with fail
                            have q1 := NB4.out.set 4 (.slice (some ⟨b4, o4, none⟩) es4.length 0)
                            simp only [List.setIfInBounds_toArray, List.set_cons_zero, List.set_cons_succ] at q1
                            have q2 := But.set V11a nb4 4 (.slice (some ⟨b4, o4, none⟩) es4.length 0)
                            have q3 : Below V11.heap.size V11 (V11a.setCell ⟨nb4, 4, none⟩ (.slice (some ⟨b4, o4, none⟩) es4.length 0)) := BB4.out.trans (q2.below (by omega) BB4.out.size)
                            generalize V11a.setCell ⟨nb4, 4, none⟩ (.slice (some ⟨b4, o4, none⟩) es4.length 0) = V11b at *
                            have LB4 := hiddenG (L11.out.trans (q3.mono L11.out.size))
                            have BKb4 := hiddenG (BK11.out.below q3)
                            have GRb4 := hiddenG (GR11.out.below q3)
                            have m0 := q1.cell (k := 0) rfl
                            have m1 := q1.cell (k := 1) rfl
                            have m2 := q1.cell (k := 2) rfl
                            have m3 := q1.cell (k := 3) rfl
                            have m4 := q1.cell (k := 4) rfl
                            simp only [List.getElem_toArray, List.getElem_cons_zero, List.getElem_cons_succ] at m0 m1 m2 m3 m4
                            clear q1 q2 q3 z4 fz4 NB4 OB4 BB4
                            have GRl4 : Hid (GrG V11b x1 (some ⟨b2, o2, none⟩) (some ⟨b3, o3, none⟩) (some ⟨b4, o4, none⟩) ⟨g.name, g.actors, (revG g).edges, (revG g).ins, es4⟩) := ⟨GRb4.out.A, GRb4.out.E, GRb4.out.I, (.inl (List.eq_nil_of_length_eq_zero HZ4.out)), GRb4.out.l1, GRb4.out.l2, GRb4.out.l3, (by show es4.length ≤ _; omega)⟩
                            go_upto_region 35 with (go_at_call 25; (with_reducible refine (CE4.out _ (some ⟨b4, o4, none⟩) 0 GRl4.out).mono ?_); rintro e V12 ⟨rfl, b9⟩; have L12 := hiddenG (LB4.out.trans (b9.mono LB4.out.size)); have BK12 := hiddenG (BKb4.out.below b9); have GR12 := hiddenG (GRb4.out.below b9); clear b9 m0 m1 m2 m3 m4)
                            clear LB4 BKb4 GRb4 GRl4 CE4 hl4 hi4 hE4
                            go_wp2_with (go_at_call 14; (with_reducible refine (AW.out _).mono ?_); rintro e VE ⟨rfl, ve⟩; have ME := hiddenG (L12.out.trans (ve.mono L12.out.size)); clear ve)
                            go_ret
                            exact ⟨rfl, ME.out⟩
                          · have hk42 : ¬ k4 = 1 := hk41
                            go_upto_region 32 with fail
                            have bb4 := (Below.refl V11.heap.size V11).alloc (Nat.le_refl _) (.cells #[.string (str g.name), .slice x1 g.actors.length d1, .slice (some ⟨b2, o2, none⟩) g.edges.length 1, .slice (some ⟨b3, o3, none⟩) g.ins.length k3, .slice (some ⟨b4, o4, none⟩) (es4.length + 1) k4] 31)
                            have NB4 := hiddenG (blkA_new 31 V11 #[.string (str g.name), .slice x1 g.actors.length d1, .slice (some ⟨b2, o2, none⟩) g.edges.length 1, .slice (some ⟨b3, o3, none⟩) g.ins.length k3, .slice (some ⟨b4, o4, none⟩) (es4.length + 1) k4])
                            obtain ⟨nb4, hnb4⟩ : ∃ q, V11.heap.size = q := ⟨_, rfl⟩
                            rw [hnb4] at NB4 ⊢
                            have OB4 := hiddenG (BK11.out.below bb4)
                            have BB4 := hiddenG bb4
                            generalize V11.alloc (.cells #[.string (str g.name), .slice x1 g.actors.length d1, .slice (some ⟨b2, o2, none⟩) g.edges.length 1, .slice (some ⟨b3, o3, none⟩) g.ins.length k3, .slice (some ⟨b4, o4, none⟩) (es4.length + 1) k4] 31) = V11a at *
                            clear bb4 z0 z1 z2 z3 z4
                            have z4 := OB4.out.cell (k := 4) rfl
                            simp only [List.getElem_toArray, List.getElem_cons_zero, List.getElem_cons_succ] at z4
                            rw [hl4] at z4
                            have m4 := NB4.out.cell (k := 4) rfl
                            simp only [List.getElem_toArray, List.getElem_cons_zero, List.getElem_cons_succ] at m4
                            have fz4 := NB4.out.frozen 4
                            go_upto_region 33 with fail
                            have q1 := NB4.out.set 4 (.slice (some ⟨b4, o4 + 3, none⟩) es4.length (k4 - 1))
                            simp only [List.setIfInBounds_toArray, List.set_cons_zero, List.set_cons_succ] at q1
                            have q2 := But.set V11a nb4 4 (.slice (some ⟨b4, o4 + 3, none⟩) es4.length (k4 - 1))
                            have q3 : Below V11.heap.size V11 (V11a.setCell ⟨nb4, 4, none⟩ (.slice (some ⟨b4, o4 + 3, none⟩) es4.length (k4 - 1))) := BB4.out.trans (q2.below (by omega) BB4.out.size)
                            generalize V11a.setCell ⟨nb4, 4, none⟩ (.slice (some ⟨b4, o4 + 3, none⟩) es4.length (k4 - 1)) = V11b at *
                            have LB4 := hiddenG (L11.out.trans (q3.mono L11.out.size))
                            have BKb4 := hiddenG (BK11.out.below q3)
                            have GRb4 := hiddenG (GR11.out.below q3)
                            have m0 := q1.cell (k := 0) rfl
                            have m1 := q1.cell (k := 1) rfl
                            have m2 := q1.cell (k := 2) rfl
                            have m3 := q1.cell (k := 3) rfl
                            have m4 := q1.cell (k := 4) rfl
                            simp only [List.getElem_toArray, List.getElem_cons_zero, List.getElem_cons_succ] at m0 m1 m2 m3 m4
                            clear q1 q2 q3 z4 fz4 NB4 OB4 BB4
                            have GRl4 : Hid (GrG V11b x1 (some ⟨b2, o2, none⟩) (some ⟨b3, o3, none⟩) (some ⟨b4, o4 + 3, none⟩) ⟨g.name, g.actors, (revG g).edges, (revG g).ins, es4⟩) := ⟨GRb4.out.A, GRb4.out.E, GRb4.out.I, (AtPt.tail (e := e4) (by have q := GRb4.out.O; rw [show (revG g).outs = e4 :: es4 from hE4] at q; exact q)), GRb4.out.l1, GRb4.out.l2, GRb4.out.l3, (by show es4.length ≤ _; omega)⟩
                            go_upto_region 35 with (go_at_call 25; (with_reducible refine (CE4.out _ (some ⟨b4, o4 + 3, none⟩) (k4 - 1) GRl4.out).mono ?_); rintro e V12 ⟨rfl, b9⟩; have L12 := hiddenG (LB4.out.trans (b9.mono LB4.out.size)); have BK12 := hiddenG (BKb4.out.below b9); have GR12 := hiddenG (GRb4.out.below b9); clear b9 m0 m1 m2 m3 m4)
                            clear LB4 BKb4 GRb4 GRl4 CE4 hl4 hi4 hE4
                            go_wp2_with (go_at_call 14; (with_reducible refine (AW.out _).mono ?_); rintro e VE ⟨rfl, ve⟩; have ME := hiddenG (L12.out.trans (ve.mono L12.out.size)); clear ve)
                            go_ret
                            exact ⟨rfl, ME.out⟩
                  · have hk22 : ¬ k2 = 1 := hk21
                    go_upto_region 22 with fail
                    have bb2 := (Below.refl V9.heap.size V9).alloc (Nat.le_refl _) (.cells #[.string (str g.name), .slice x1 g.actors.length d1, .slice (some ⟨b2, o2, none⟩) (es2.length + 1) k2, .slice d3 g.ins.length k3, .slice d4 g.outs.length k4] 31)
                    have NB2 := hiddenG (blkA_new 31 V9 #[.string (str g.name), .slice x1 g.actors.length d1, .slice (some ⟨b2, o2, none⟩) (es2.length + 1) k2, .slice d3 g.ins.length k3, .slice d4 g.outs.length k4])
                    obtain ⟨nb2, hnb2⟩ : ∃ q, V9.heap.size = q := ⟨_, rfl⟩
                    rw [hnb2] at NB2 ⊢
                    have OB2 := hiddenG (BK9.out.below bb2)
                    have BB2 := hiddenG bb2
                    generalize V9.alloc (.cells #[.string (str g.name), .slice x1 g.actors.length d1, .slice (some ⟨b2, o2, none⟩) (es2.length + 1) k2, .slice d3 g.ins.length k3, .slice d4 g.outs.length k4] 31) = V9a at *
                    clear bb2 z0 z1 z2 z3 z4
                    have z2 := OB2.out.cell (k := 2) rfl
                    simp only [List.getElem_toArray, List.getElem_cons_zero, List.getElem_cons_succ] at z2
                    rw [hl2] at z2
                    have m2 := NB2.out.cell (k := 2) rfl
                    simp only [List.getElem_toArray, List.getElem_cons_zero, List.getElem_cons_succ] at m2
                    have fz2 := NB2.out.frozen 2
                    go_upto_region 23 with fail
                    have q1 := NB2.out.set 2 (.slice (some ⟨b2, o2 + 5, none⟩) es2.length (k2 - 1))
                    simp only [List.setIfInBounds_toArray, List.set_cons_zero, List.set_cons_succ] at q1
                    have q2 := But.set V9a nb2 2 (.slice (some ⟨b2, o2 + 5, none⟩) es2.length (k2 - 1))
                    have q3 : Below V9.heap.size V9 (V9a.setCell ⟨nb2, 2, none⟩ (.slice (some ⟨b2, o2 + 5, none⟩) es2.length (k2 - 1))) := BB2.out.trans (q2.below (by omega) BB2.out.size)
                    generalize V9a.setCell ⟨nb2, 2, none⟩ (.slice (some ⟨b2, o2 + 5, none⟩) es2.length (k2 - 1)) = V9b at *
                    have LB2 := hiddenG (L9.out.trans (q3.mono L9.out.size))
                    have BKb2 := hiddenG (BK9.out.below q3)
                    have GRb2 := hiddenG (GR9.out.below q3)
                    have m0 := q1.cell (k := 0) rfl
                    have m1 := q1.cell (k := 1) rfl
                    have m2 := q1.cell (k := 2) rfl
                    have m3 := q1.cell (k := 3) rfl
                    have m4 := q1.cell (k := 4) rfl
                    simp only [List.getElem_toArray, List.getElem_cons_zero, List.getElem_cons_succ] at m0 m1 m2 m3 m4
                    clear q1 q2 q3 z2 fz2 NB2 OB2 BB2
                    have GRl2 : Hid (GrG V9b x1 (some ⟨b2, o2 + 5, none⟩) d3 d4 ⟨g.name, g.actors, es2, (revG g).ins, (revG g).outs⟩) := ⟨GRb2.out.A, (GrE.tail (e := e2) (by have q := GRb2.out.E; rw [show (revG g).edges = e2 :: es2 from hE2] at q; exact q)), GRb2.out.I, GRb2.out.O, GRb2.out.l1, (by show es2.length ≤ _; omega), GRb2.out.l3, GRb2.out.l4⟩
                    go_upto_region 25 with (go_at_call 25; (with_reducible refine (CE2.out _ (some ⟨b2, o2 + 5, none⟩) (k2 - 1) GRl2.out).mono ?_); rintro e V10 ⟨rfl, b9⟩; have L10 := hiddenG (LB2.out.trans (b9.mono LB2.out.size)); have BK10 := hiddenG (BKb2.out.below b9); have GR10 := hiddenG (GRb2.out.below b9); clear b9 m0 m1 m2 m3 m4)
                    clear LB2 BKb2 GRb2 GRl2 CE2 hl2 hi2 hE2
                    have z0 := BK10.out.cell (k := 0) rfl
                    have z1 := BK10.out.cell (k := 1) rfl
                    have z2 := BK10.out.cell (k := 2) rfl
                    have z3 := BK10.out.cell (k := 3) rfl
                    have z4 := BK10.out.cell (k := 4) rfl
                    simp only [List.getElem_toArray, List.getElem_cons_zero, List.getElem_cons_succ] at z0 z1 z2 z3 z4
                    rcases hE3 : g.ins.reverse with _ | ⟨e3, es3⟩
                    · have hl3 : g.ins.length = 0 := by simpa using congrArg List.length hE3
                      have hi3 : ¬ (0 : Int) < (g.ins.length : Int) := by omega
                      go_upto_region 30 with fail
                      clear z0 z1 z2 z3 z4 hl3 hi3 hE3
                      have z0 := BK10.out.cell (k := 0) rfl
                      have z1 := BK10.out.cell (k := 1) rfl
                      have z2 := BK10.out.cell (k := 2) rfl
                      have z3 := BK10.out.cell (k := 3) rfl
                      have z4 := BK10.out.cell (k := 4) rfl
                      simp only [List.getElem_toArray, List.getElem_cons_zero, List.getElem_cons_succ] at z0 z1 z2 z3 z4
                      rcases hE4 : g.outs.reverse with _ | ⟨e4, es4⟩
                      · have hl4 : g.outs.length = 0 := by simpa using congrArg List.length hE4
                        have hi4 : ¬ (0 : Int) < (g.outs.length : Int) := by omega
                        go_upto_region 35 with fail
                        clear z0 z1 z2 z3 z4 hl4 hi4 hE4
                        go_wp2_with (go_at_call 14; (with_reducible refine (AW.out _).mono ?_); rintro e VE ⟨rfl, ve⟩; have ME := hiddenG (L10.out.trans (ve.mono L10.out.size)); clear ve)
                        go_ret
                        exact ⟨rfl, ME.out⟩
                      · have hl4 : g.outs.length = es4.length + 1 := by simpa using congrArg List.length hE4
                        have hi4 : (0 : Int) < (((es4.length + 1 : Nat)) : Int) := by omega
                        have CE4 : Hid (∀ U y kk, GrG U x1 (some ⟨b2, o2, none⟩) d3 y ⟨g.name, g.actors, (revG g).edges, (revG g).ins, es4⟩ → Calls Try.prog 25 #[.agg #[.string (str g.name), .slice x1 g.actors.length d1, .slice (some ⟨b2, o2, none⟩) g.edges.length k2, .slice d3 g.ins.length k3, .slice y es4.length kk]] U fun e w' => e = .returned (.int .i64 87) ∧ Below U.heap.size U w') := fun U y kk hg => by
                          have q := check_any ⟨g.name, g.actors, (revG g).edges, (revG g).ins, es4⟩ x1 (some ⟨b2, o2, none⟩) d3 y d1 k2 k3 kk U hg
                          have q0 : (firstF ⟨g.name, g.actors, (revG g).edges, (revG g).ins, es4⟩).code = 87 := less_O (g := revG g) SR.out hE4
                          rw [q0] at q
                          simp only [revG, List.length_reverse] at q
                          exact q
                        obtain ⟨b4, o4, hd4⟩ : ∃ b o, d4 = some ⟨b, o, none⟩ := by
                          rcases GR10.out.O with e | ⟨b, o, e, -⟩
                          · exact absurd (show g.outs.reverse = [] from e) (by rw [hE4]; exact List.cons_ne_nil _ _)
                          · exact ⟨b, o, e⟩
                        subst hd4
                        rw [hl4] at z4 hcp4
                        by_cases hk41 : k4 = 1
                        · subst hk41
                          have HZ4 : Hid (es4.length = 0) := by show _ = _; omega
                          clear hcp4
                          go_upto_region 32 with fail
                          have bb4 := (Below.refl V10.heap.size V10).alloc (Nat.le_refl _) (.cells #[.string (str g.name), .slice x1 g.actors.length d1, .slice (some ⟨b2, o2, none⟩) g.edges.length k2, .slice d3 g.ins.length k3, .slice (some ⟨b4, o4, none⟩) (es4.length + 1) 1] 31)
                          have NB4 := hiddenG (blkA_new 31 V10 #[.string (str g.name), .slice x1 g.actors.length d1, .slice (some ⟨b2, o2, none⟩) g.edges.length k2, .slice d3 g.ins.length k3, .slice (some ⟨b4, o4, none⟩) (es4.length + 1) 1])
                          obtain ⟨nb4, hnb4⟩ : ∃ q, V10.heap.size = q := ⟨_, rfl⟩
                          rw [hnb4] at NB4 ⊢
                          have OB4 := hiddenG (BK10.out.below bb4)
                          have BB4 := hiddenG bb4
                          generalize V10.alloc (.cells #[.string (str g.name), .slice x1 g.actors.length d1, .slice (some ⟨b2, o2, none⟩) g.edges.length k2, .slice d3 g.ins.length k3, .slice (some ⟨b4, o4, none⟩) (es4.length + 1) 1] 31) = V10a at *
                          clear bb4 z0 z1 z2 z3 z4
                          have z4 := OB4.out.cell (k := 4) rfl
                          simp only [List.getElem_toArray, List.getElem_cons_zero, List.getElem_cons_succ] at z4
                          rw [hl4] at z4
                          have m4 := NB4.out.cell (k := 4) rfl
                          simp only [List.getElem_toArray, List.getElem_cons_zero, List.getElem_cons_succ] at m4
                          have fz4 := NB4.out.frozen 4
                          go_upto_region 33 with fail
                          have q1 := NB4.out.set 4 (.slice (some ⟨b4, o4, none⟩) es4.length 0)
                          simp only [List.setIfInBounds_toArray, List.set_cons_zero, List.set_cons_succ] at q1
                          have q2 := But.set V10a nb4 4 (.slice (some ⟨b4, o4, none⟩) es4.length 0)
                          have q3 : Below V10.heap.size V10 (V10a.setCell ⟨nb4, 4, none⟩ (.slice (some ⟨b4, o4, none⟩) es4.length 0)) := BB4.out.trans (q2.below (by omega) BB4.out.size)
                          generalize V10a.setCell ⟨nb4, 4, none⟩ (.slice (some ⟨b4, o4, none⟩) es4.length 0) = V10b at *
                          have LB4 := hiddenG (L10.out.trans (q3.mono L10.out.size))
                          have BKb4 := hiddenG (BK10.out.below q3)
                          have GRb4 := hiddenG (GR10.out.below q3)
                          have m0 := q1.cell (k := 0) rfl
                          have m1 := q1.cell (k := 1) rfl
                          have m2 := q1.cell (k := 2) rfl
                          have m3 := q1.cell (k := 3) rfl
                          have m4 := q1.cell (k := 4) rfl
                          simp only [List.getElem_toArray, List.getElem_cons_zero, List.getElem_cons_succ] at m0 m1 m2 m3 m4
                          clear q1 q2 q3 z4 fz4 NB4 OB4 BB4
                          have GRl4 : Hid (GrG V10b x1 (some ⟨b2, o2, none⟩) d3 (some ⟨b4, o4, none⟩) ⟨g.name, g.actors, (revG g).edges, (revG g).ins, es4⟩) := ⟨GRb4.out.A, GRb4.out.E, GRb4.out.I, (.inl (List.eq_nil_of_length_eq_zero HZ4.out)), GRb4.out.l1, GRb4.out.l2, GRb4.out.l3, (by show es4.length ≤ _; omega)⟩
                          go_upto_region 35 with (go_at_call 25; (with_reducible refine (CE4.out _ (some ⟨b4, o4, none⟩) 0 GRl4.out).mono ?_); rintro e V11 ⟨rfl, b9⟩; have L11 := hiddenG (LB4.out.trans (b9.mono LB4.out.size)); have BK11 := hiddenG (BKb4.out.below b9); have GR11 := hiddenG (GRb4.out.below b9); clear b9 m0 m1 m2 m3 m4)
                          clear LB4 BKb4 GRb4 GRl4 CE4 hl4 hi4 hE4
                          go_wp2_with (go_at_call 14; (with_reducible refine (AW.out _).mono ?_); rintro e VE ⟨rfl, ve⟩; have ME := hiddenG (L11.out.trans (ve.mono L11.out.size)); clear ve)
                          go_ret
                          exact ⟨rfl, ME.out⟩
                        · have hk42 : ¬ k4 = 1 := hk41
                          go_upto_region 32 with fail
                          have bb4 := (Below.refl V10.heap.size V10).alloc (Nat.le_refl _) (.cells #[.string (str g.name), .slice x1 g.actors.length d1, .slice (some ⟨b2, o2, none⟩) g.edges.length k2, .slice d3 g.ins.length k3, .slice (some ⟨b4, o4, none⟩) (es4.length + 1) k4] 31)
                          have NB4 := hiddenG (blkA_new 31 V10 #[.string (str g.name), .slice x1 g.actors.length d1, .slice (some ⟨b2, o2, none⟩) g.edges.length k2, .slice d3 g.ins.length k3, .slice (some ⟨b4, o4, none⟩) (es4.length + 1) k4])
                          obtain ⟨nb4, hnb4⟩ : ∃ q, V10.heap.size = q := ⟨_, rfl⟩
                          rw [hnb4] at NB4 ⊢
                          have OB4 := hiddenG (BK10.out.below bb4)
                          have BB4 := hiddenG bb4
                          generalize V10.alloc (.cells #[.string (str g.name), .slice x1 g.actors.length d1, .slice (some ⟨b2, o2, none⟩) g.edges.length k2, .slice d3 g.ins.length k3, .slice (some ⟨b4, o4, none⟩) (es4.length + 1) k4] 31) = V10a at *
                          clear bb4 z0 z1 z2 z3 z4
                          have z4 := OB4.out.cell (k := 4) rfl
                          simp only [List.getElem_toArray, List.getElem_cons_zero, List.getElem_cons_succ] at z4
                          rw [hl4] at z4
                          have m4 := NB4.out.cell (k := 4) rfl
                          simp only [List.getElem_toArray, List.getElem_cons_zero, List.getElem_cons_succ] at m4
                          have fz4 := NB4.out.frozen 4
                          go_upto_region 33 with fail
                          have q1 := NB4.out.set 4 (.slice (some ⟨b4, o4 + 3, none⟩) es4.length (k4 - 1))
                          simp only [List.setIfInBounds_toArray, List.set_cons_zero, List.set_cons_succ] at q1
                          have q2 := But.set V10a nb4 4 (.slice (some ⟨b4, o4 + 3, none⟩) es4.length (k4 - 1))
                          have q3 : Below V10.heap.size V10 (V10a.setCell ⟨nb4, 4, none⟩ (.slice (some ⟨b4, o4 + 3, none⟩) es4.length (k4 - 1))) := BB4.out.trans (q2.below (by omega) BB4.out.size)
                          generalize V10a.setCell ⟨nb4, 4, none⟩ (.slice (some ⟨b4, o4 + 3, none⟩) es4.length (k4 - 1)) = V10b at *
                          have LB4 := hiddenG (L10.out.trans (q3.mono L10.out.size))
                          have BKb4 := hiddenG (BK10.out.below q3)
                          have GRb4 := hiddenG (GR10.out.below q3)
                          have m0 := q1.cell (k := 0) rfl
                          have m1 := q1.cell (k := 1) rfl
                          have m2 := q1.cell (k := 2) rfl
                          have m3 := q1.cell (k := 3) rfl
                          have m4 := q1.cell (k := 4) rfl
                          simp only [List.getElem_toArray, List.getElem_cons_zero, List.getElem_cons_succ] at m0 m1 m2 m3 m4
                          clear q1 q2 q3 z4 fz4 NB4 OB4 BB4
                          have GRl4 : Hid (GrG V10b x1 (some ⟨b2, o2, none⟩) d3 (some ⟨b4, o4 + 3, none⟩) ⟨g.name, g.actors, (revG g).edges, (revG g).ins, es4⟩) := ⟨GRb4.out.A, GRb4.out.E, GRb4.out.I, (AtPt.tail (e := e4) (by have q := GRb4.out.O; rw [show (revG g).outs = e4 :: es4 from hE4] at q; exact q)), GRb4.out.l1, GRb4.out.l2, GRb4.out.l3, (by show es4.length ≤ _; omega)⟩
                          go_upto_region 35 with (go_at_call 25; (with_reducible refine (CE4.out _ (some ⟨b4, o4 + 3, none⟩) (k4 - 1) GRl4.out).mono ?_); rintro e V11 ⟨rfl, b9⟩; have L11 := hiddenG (LB4.out.trans (b9.mono LB4.out.size)); have BK11 := hiddenG (BKb4.out.below b9); have GR11 := hiddenG (GRb4.out.below b9); clear b9 m0 m1 m2 m3 m4)
                          clear LB4 BKb4 GRb4 GRl4 CE4 hl4 hi4 hE4
                          go_wp2_with (go_at_call 14; (with_reducible refine (AW.out _).mono ?_); rintro e VE ⟨rfl, ve⟩; have ME := hiddenG (L11.out.trans (ve.mono L11.out.size)); clear ve)
                          go_ret
                          exact ⟨rfl, ME.out⟩
                    · have hl3 : g.ins.length = es3.length + 1 := by simpa using congrArg List.length hE3
                      have hi3 : (0 : Int) < (((es3.length + 1 : Nat)) : Int) := by omega
                      have CE3 : Hid (∀ U y kk, GrG U x1 (some ⟨b2, o2, none⟩) y d4 ⟨g.name, g.actors, (revG g).edges, es3, (revG g).outs⟩ → Calls Try.prog 25 #[.agg #[.string (str g.name), .slice x1 g.actors.length d1, .slice (some ⟨b2, o2, none⟩) g.edges.length k2, .slice y es3.length kk, .slice d4 g.outs.length k4]] U fun e w' => e = .returned (.int .i64 87) ∧ Below U.heap.size U w') := fun U y kk hg => by
                        have q := check_any ⟨g.name, g.actors, (revG g).edges, es3, (revG g).outs⟩ x1 (some ⟨b2, o2, none⟩) y d4 d1 k2 kk k4 U hg
                        have q0 : (firstF ⟨g.name, g.actors, (revG g).edges, es3, (revG g).outs⟩).code = 87 := less_I (g := revG g) SR.out hE3
                        rw [q0] at q
                        simp only [revG, List.length_reverse] at q
                        exact q
                      obtain ⟨b3, o3, hd3⟩ : ∃ b o, d3 = some ⟨b, o, none⟩ := by
                        rcases GR10.out.I with e | ⟨b, o, e, -⟩
                        · exact absurd (show g.ins.reverse = [] from e) (by rw [hE3]; exact List.cons_ne_nil _ _)
                        · exact ⟨b, o, e⟩
                      subst hd3
                      rw [hl3] at z3 hcp3
                      by_cases hk31 : k3 = 1
                      · subst hk31
                        have HZ3 : Hid (es3.length = 0) := by show _ = _; omega
                        clear hcp3
                        go_upto_region 27 with fail
                        have bb3 := (Below.refl V10.heap.size V10).alloc (Nat.le_refl _) (.cells #[.string (str g.name), .slice x1 g.actors.length d1, .slice (some ⟨b2, o2, none⟩) g.edges.length k2, .slice (some ⟨b3, o3, none⟩) (es3.length + 1) 1, .slice d4 g.outs.length k4] 31)
                        have NB3 := hiddenG (blkA_new 31 V10 #[.string (str g.name), .slice x1 g.actors.length d1, .slice (some ⟨b2, o2, none⟩) g.edges.length k2, .slice (some ⟨b3, o3, none⟩) (es3.length + 1) 1, .slice d4 g.outs.length k4])
                        obtain ⟨nb3, hnb3⟩ : ∃ q, V10.heap.size = q := ⟨_, rfl⟩
                        rw [hnb3] at NB3 ⊢
                        have OB3 := hiddenG (BK10.out.below bb3)
                        have BB3 := hiddenG bb3
                        generalize V10.alloc (.cells #[.string (str g.name), .slice x1 g.actors.length d1, .slice (some ⟨b2, o2, none⟩) g.edges.length k2, .slice (some ⟨b3, o3, none⟩) (es3.length + 1) 1, .slice d4 g.outs.length k4] 31) = V10a at *
                        clear bb3 z0 z1 z2 z3 z4
                        have z3 := OB3.out.cell (k := 3) rfl
                        simp only [List.getElem_toArray, List.getElem_cons_zero, List.getElem_cons_succ] at z3
                        rw [hl3] at z3
                        have m3 := NB3.out.cell (k := 3) rfl
                        simp only [List.getElem_toArray, List.getElem_cons_zero, List.getElem_cons_succ] at m3
                        have fz3 := NB3.out.frozen 3
                        go_upto_region 28 with fail
                        have q1 := NB3.out.set 3 (.slice (some ⟨b3, o3, none⟩) es3.length 0)
                        simp only [List.setIfInBounds_toArray, List.set_cons_zero, List.set_cons_succ] at q1
                        have q2 := But.set V10a nb3 3 (.slice (some ⟨b3, o3, none⟩) es3.length 0)
                        have q3 : Below V10.heap.size V10 (V10a.setCell ⟨nb3, 3, none⟩ (.slice (some ⟨b3, o3, none⟩) es3.length 0)) := BB3.out.trans (q2.below (by omega) BB3.out.size)
                        generalize V10a.setCell ⟨nb3, 3, none⟩ (.slice (some ⟨b3, o3, none⟩) es3.length 0) = V10b at *
                        have LB3 := hiddenG (L10.out.trans (q3.mono L10.out.size))
                        have BKb3 := hiddenG (BK10.out.below q3)
                        have GRb3 := hiddenG (GR10.out.below q3)
                        have m0 := q1.cell (k := 0) rfl
                        have m1 := q1.cell (k := 1) rfl
                        have m2 := q1.cell (k := 2) rfl
                        have m3 := q1.cell (k := 3) rfl
                        have m4 := q1.cell (k := 4) rfl
                        simp only [List.getElem_toArray, List.getElem_cons_zero, List.getElem_cons_succ] at m0 m1 m2 m3 m4
                        clear q1 q2 q3 z3 fz3 NB3 OB3 BB3
                        have GRl3 : Hid (GrG V10b x1 (some ⟨b2, o2, none⟩) (some ⟨b3, o3, none⟩) d4 ⟨g.name, g.actors, (revG g).edges, es3, (revG g).outs⟩) := ⟨GRb3.out.A, GRb3.out.E, (.inl (List.eq_nil_of_length_eq_zero HZ3.out)), GRb3.out.O, GRb3.out.l1, GRb3.out.l2, (by show es3.length ≤ _; omega), GRb3.out.l4⟩
                        go_upto_region 30 with (go_at_call 25; (with_reducible refine (CE3.out _ (some ⟨b3, o3, none⟩) 0 GRl3.out).mono ?_); rintro e V11 ⟨rfl, b9⟩; have L11 := hiddenG (LB3.out.trans (b9.mono LB3.out.size)); have BK11 := hiddenG (BKb3.out.below b9); have GR11 := hiddenG (GRb3.out.below b9); clear b9 m0 m1 m2 m3 m4)
                        clear LB3 BKb3 GRb3 GRl3 CE3 hl3 hi3 hE3
                        have z0 := BK11.out.cell (k := 0) rfl
                        have z1 := BK11.out.cell (k := 1) rfl
                        have z2 := BK11.out.cell (k := 2) rfl
                        have z3 := BK11.out.cell (k := 3) rfl
                        have z4 := BK11.out.cell (k := 4) rfl
                        simp only [List.getElem_toArray, List.getElem_cons_zero, List.getElem_cons_succ] at z0 z1 z2 z3 z4
                        rcases hE4 : g.outs.reverse with _ | ⟨e4, es4⟩
                        · have hl4 : g.outs.length = 0 := by simpa using congrArg List.length hE4
                          have hi4 : ¬ (0 : Int) < (g.outs.length : Int) := by omega
                          go_upto_region 35 with fail
                          clear z0 z1 z2 z3 z4 hl4 hi4 hE4
                          go_wp2_with (go_at_call 14; (with_reducible refine (AW.out _).mono ?_); rintro e VE ⟨rfl, ve⟩; have ME := hiddenG (L11.out.trans (ve.mono L11.out.size)); clear ve)
                          go_ret
                          exact ⟨rfl, ME.out⟩
                        · have hl4 : g.outs.length = es4.length + 1 := by simpa using congrArg List.length hE4
                          have hi4 : (0 : Int) < (((es4.length + 1 : Nat)) : Int) := by omega
                          have CE4 : Hid (∀ U y kk, GrG U x1 (some ⟨b2, o2, none⟩) (some ⟨b3, o3, none⟩) y ⟨g.name, g.actors, (revG g).edges, (revG g).ins, es4⟩ → Calls Try.prog 25 #[.agg #[.string (str g.name), .slice x1 g.actors.length d1, .slice (some ⟨b2, o2, none⟩) g.edges.length k2, .slice (some ⟨b3, o3, none⟩) g.ins.length 1, .slice y es4.length kk]] U fun e w' => e = .returned (.int .i64 87) ∧ Below U.heap.size U w') := fun U y kk hg => by
                            have q := check_any ⟨g.name, g.actors, (revG g).edges, (revG g).ins, es4⟩ x1 (some ⟨b2, o2, none⟩) (some ⟨b3, o3, none⟩) y d1 k2 1 kk U hg
                            have q0 : (firstF ⟨g.name, g.actors, (revG g).edges, (revG g).ins, es4⟩).code = 87 := less_O (g := revG g) SR.out hE4
                            rw [q0] at q
                            simp only [revG, List.length_reverse] at q
                            exact q
                          obtain ⟨b4, o4, hd4⟩ : ∃ b o, d4 = some ⟨b, o, none⟩ := by
                            rcases GR11.out.O with e | ⟨b, o, e, -⟩
                            · exact absurd (show g.outs.reverse = [] from e) (by rw [hE4]; exact List.cons_ne_nil _ _)
                            · exact ⟨b, o, e⟩
                          subst hd4
                          rw [hl4] at z4 hcp4
                          by_cases hk41 : k4 = 1
                          · subst hk41
                            have HZ4 : Hid (es4.length = 0) := by show _ = _; omega
                            clear hcp4
                            go_upto_region 32 with fail
                            have bb4 := (Below.refl V11.heap.size V11).alloc (Nat.le_refl _) (.cells #[.string (str g.name), .slice x1 g.actors.length d1, .slice (some ⟨b2, o2, none⟩) g.edges.length k2, .slice (some ⟨b3, o3, none⟩) g.ins.length 1, .slice (some ⟨b4, o4, none⟩) (es4.length + 1) 1] 31)
                            have NB4 := hiddenG (blkA_new 31 V11 #[.string (str g.name), .slice x1 g.actors.length d1, .slice (some ⟨b2, o2, none⟩) g.edges.length k2, .slice (some ⟨b3, o3, none⟩) g.ins.length 1, .slice (some ⟨b4, o4, none⟩) (es4.length + 1) 1])
                            obtain ⟨nb4, hnb4⟩ : ∃ q, V11.heap.size = q := ⟨_, rfl⟩
                            rw [hnb4] at NB4 ⊢
                            have OB4 := hiddenG (BK11.out.below bb4)
                            have BB4 := hiddenG bb4
                            generalize V11.alloc (.cells #[.string (str g.name), .slice x1 g.actors.length d1, .slice (some ⟨b2, o2, none⟩) g.edges.length k2, .slice (some ⟨b3, o3, none⟩) g.ins.length 1, .slice (some ⟨b4, o4, none⟩) (es4.length + 1) 1] 31) = V11a at *
                            clear bb4 z0 z1 z2 z3 z4
                            have z4 := OB4.out.cell (k := 4) rfl
                            simp only [List.getElem_toArray, List.getElem_cons_zero, List.getElem_cons_succ] at z4
                            rw [hl4] at z4
                            have m4 := NB4.out.cell (k := 4) rfl
                            simp only [List.getElem_toArray, List.getElem_cons_zero, List.getElem_cons_succ] at m4
                            have fz4 := NB4.out.frozen 4
                            go_upto_region 33 with fail
                            have q1 := NB4.out.set 4 (.slice (some ⟨b4, o4, none⟩) es4.length 0)
                            simp only [List.setIfInBounds_toArray, List.set_cons_zero, List.set_cons_succ] at q1
                            have q2 := But.set V11a nb4 4 (.slice (some ⟨b4, o4, none⟩) es4.length 0)
                            have q3 : Below V11.heap.size V11 (V11a.setCell ⟨nb4, 4, none⟩ (.slice (some ⟨b4, o4, none⟩) es4.length 0)) := BB4.out.trans (q2.below (by omega) BB4.out.size)
                            generalize V11a.setCell ⟨nb4, 4, none⟩ (.slice (some ⟨b4, o4, none⟩) es4.length 0) = V11b at *
                            have LB4 := hiddenG (L11.out.trans (q3.mono L11.out.size))
                            have BKb4 := hiddenG (BK11.out.below q3)
                            have GRb4 := hiddenG (GR11.out.below q3)
                            have m0 := q1.cell (k := 0) rfl
                            have m1 := q1.cell (k := 1) rfl
                            have m2 := q1.cell (k := 2) rfl
                            have m3 := q1.cell (k := 3) rfl
                            have m4 := q1.cell (k := 4) rfl
                            simp only [List.getElem_toArray, List.getElem_cons_zero, List.getElem_cons_succ] at m0 m1 m2 m3 m4
                            clear q1 q2 q3 z4 fz4 NB4 OB4 BB4
                            have GRl4 : Hid (GrG V11b x1 (some ⟨b2, o2, none⟩) (some ⟨b3, o3, none⟩) (some ⟨b4, o4, none⟩) ⟨g.name, g.actors, (revG g).edges, (revG g).ins, es4⟩) := ⟨GRb4.out.A, GRb4.out.E, GRb4.out.I, (.inl (List.eq_nil_of_length_eq_zero HZ4.out)), GRb4.out.l1, GRb4.out.l2, GRb4.out.l3, (by show es4.length ≤ _; omega)⟩
                            go_upto_region 35 with (go_at_call 25; (with_reducible refine (CE4.out _ (some ⟨b4, o4, none⟩) 0 GRl4.out).mono ?_); rintro e V12 ⟨rfl, b9⟩; have L12 := hiddenG (LB4.out.trans (b9.mono LB4.out.size)); have BK12 := hiddenG (BKb4.out.below b9); have GR12 := hiddenG (GRb4.out.below b9); clear b9 m0 m1 m2 m3 m4)
                            clear LB4 BKb4 GRb4 GRl4 CE4 hl4 hi4 hE4
                            go_wp2_with (go_at_call 14; (with_reducible refine (AW.out _).mono ?_); rintro e VE ⟨rfl, ve⟩; have ME := hiddenG (L12.out.trans (ve.mono L12.out.size)); clear ve)
                            go_ret
                            exact ⟨rfl, ME.out⟩
                          · have hk42 : ¬ k4 = 1 := hk41
                            go_upto_region 32 with fail
                            have bb4 := (Below.refl V11.heap.size V11).alloc (Nat.le_refl _) (.cells #[.string (str g.name), .slice x1 g.actors.length d1, .slice (some ⟨b2, o2, none⟩) g.edges.length k2, .slice (some ⟨b3, o3, none⟩) g.ins.length 1, .slice (some ⟨b4, o4, none⟩) (es4.length + 1) k4] 31)
                            have NB4 := hiddenG (blkA_new 31 V11 #[.string (str g.name), .slice x1 g.actors.length d1, .slice (some ⟨b2, o2, none⟩) g.edges.length k2, .slice (some ⟨b3, o3, none⟩) g.ins.length 1, .slice (some ⟨b4, o4, none⟩) (es4.length + 1) k4])
                            obtain ⟨nb4, hnb4⟩ : ∃ q, V11.heap.size = q := ⟨_, rfl⟩
                            rw [hnb4] at NB4 ⊢
                            have OB4 := hiddenG (BK11.out.below bb4)
                            have BB4 := hiddenG bb4
                            generalize V11.alloc (.cells #[.string (str g.name), .slice x1 g.actors.length d1, .slice (some ⟨b2, o2, none⟩) g.edges.length k2, .slice (some ⟨b3, o3, none⟩) g.ins.length 1, .slice (some ⟨b4, o4, none⟩) (es4.length + 1) k4] 31) = V11a at *
                            clear bb4 z0 z1 z2 z3 z4
                            have z4 := OB4.out.cell (k := 4) rfl
                            simp only [List.getElem_toArray, List.getElem_cons_zero, List.getElem_cons_succ] at z4
                            rw [hl4] at z4
                            have m4 := NB4.out.cell (k := 4) rfl
                            simp only [List.getElem_toArray, List.getElem_cons_zero, List.getElem_cons_succ] at m4
                            have fz4 := NB4.out.frozen 4
                            go_upto_region 33 with fail
                            have q1 := NB4.out.set 4 (.slice (some ⟨b4, o4 + 3, none⟩) es4.length (k4 - 1))
                            simp only [List.setIfInBounds_toArray, List.set_cons_zero, List.set_cons_succ] at q1
                            have q2 := But.set V11a nb4 4 (.slice (some ⟨b4, o4 + 3, none⟩) es4.length (k4 - 1))
                            have q3 : Below V11.heap.size V11 (V11a.setCell ⟨nb4, 4, none⟩ (.slice (some ⟨b4, o4 + 3, none⟩) es4.length (k4 - 1))) := BB4.out.trans (q2.below (by omega) BB4.out.size)
                            generalize V11a.setCell ⟨nb4, 4, none⟩ (.slice (some ⟨b4, o4 + 3, none⟩) es4.length (k4 - 1)) = V11b at *
                            have LB4 := hiddenG (L11.out.trans (q3.mono L11.out.size))
                            have BKb4 := hiddenG (BK11.out.below q3)
                            have GRb4 := hiddenG (GR11.out.below q3)
                            have m0 := q1.cell (k := 0) rfl
                            have m1 := q1.cell (k := 1) rfl
                            have m2 := q1.cell (k := 2) rfl
                            have m3 := q1.cell (k := 3) rfl
                            have m4 := q1.cell (k := 4) rfl
                            simp only [List.getElem_toArray, List.getElem_cons_zero, List.getElem_cons_succ] at m0 m1 m2 m3 m4
                            clear q1 q2 q3 z4 fz4 NB4 OB4 BB4
                            have GRl4 : Hid (GrG V11b x1 (some ⟨b2, o2, none⟩) (some ⟨b3, o3, none⟩) (some ⟨b4, o4 + 3, none⟩) ⟨g.name, g.actors, (revG g).edges, (revG g).ins, es4⟩) := ⟨GRb4.out.A, GRb4.out.E, GRb4.out.I, (AtPt.tail (e := e4) (by have q := GRb4.out.O; rw [show (revG g).outs = e4 :: es4 from hE4] at q; exact q)), GRb4.out.l1, GRb4.out.l2, GRb4.out.l3, (by show es4.length ≤ _; omega)⟩
                            go_upto_region 35 with (go_at_call 25; (with_reducible refine (CE4.out _ (some ⟨b4, o4 + 3, none⟩) (k4 - 1) GRl4.out).mono ?_); rintro e V12 ⟨rfl, b9⟩; have L12 := hiddenG (LB4.out.trans (b9.mono LB4.out.size)); have BK12 := hiddenG (BKb4.out.below b9); have GR12 := hiddenG (GRb4.out.below b9); clear b9 m0 m1 m2 m3 m4)
                            clear LB4 BKb4 GRb4 GRl4 CE4 hl4 hi4 hE4
                            go_wp2_with (go_at_call 14; (with_reducible refine (AW.out _).mono ?_); rintro e VE ⟨rfl, ve⟩; have ME := hiddenG (L12.out.trans (ve.mono L12.out.size)); clear ve)
                            go_ret
                            exact ⟨rfl, ME.out⟩
                      · have hk32 : ¬ k3 = 1 := hk31
                        go_upto_region 27 with fail
                        have bb3 := (Below.refl V10.heap.size V10).alloc (Nat.le_refl _) (.cells #[.string (str g.name), .slice x1 g.actors.length d1, .slice (some ⟨b2, o2, none⟩) g.edges.length k2, .slice (some ⟨b3, o3, none⟩) (es3.length + 1) k3, .slice d4 g.outs.length k4] 31)
                        have NB3 := hiddenG (blkA_new 31 V10 #[.string (str g.name), .slice x1 g.actors.length d1, .slice (some ⟨b2, o2, none⟩) g.edges.length k2, .slice (some ⟨b3, o3, none⟩) (es3.length + 1) k3, .slice d4 g.outs.length k4])
                        obtain ⟨nb3, hnb3⟩ : ∃ q, V10.heap.size = q := ⟨_, rfl⟩
                        rw [hnb3] at NB3 ⊢
                        have OB3 := hiddenG (BK10.out.below bb3)
                        have BB3 := hiddenG bb3
                        generalize V10.alloc (.cells #[.string (str g.name), .slice x1 g.actors.length d1, .slice (some ⟨b2, o2, none⟩) g.edges.length k2, .slice (some ⟨b3, o3, none⟩) (es3.length + 1) k3, .slice d4 g.outs.length k4] 31) = V10a at *
                        clear bb3 z0 z1 z2 z3 z4
                        have z3 := OB3.out.cell (k := 3) rfl
                        simp only [List.getElem_toArray, List.getElem_cons_zero, List.getElem_cons_succ] at z3
                        rw [hl3] at z3
                        have m3 := NB3.out.cell (k := 3) rfl
                        simp only [List.getElem_toArray, List.getElem_cons_zero, List.getElem_cons_succ] at m3
                        have fz3 := NB3.out.frozen 3
                        go_upto_region 28 with fail
                        have q1 := NB3.out.set 3 (.slice (some ⟨b3, o3 + 3, none⟩) es3.length (k3 - 1))
                        simp only [List.setIfInBounds_toArray, List.set_cons_zero, List.set_cons_succ] at q1
                        have q2 := But.set V10a nb3 3 (.slice (some ⟨b3, o3 + 3, none⟩) es3.length (k3 - 1))
                        have q3 : Below V10.heap.size V10 (V10a.setCell ⟨nb3, 3, none⟩ (.slice (some ⟨b3, o3 + 3, none⟩) es3.length (k3 - 1))) := BB3.out.trans (q2.below (by omega) BB3.out.size)
                        generalize V10a.setCell ⟨nb3, 3, none⟩ (.slice (some ⟨b3, o3 + 3, none⟩) es3.length (k3 - 1)) = V10b at *
                        have LB3 := hiddenG (L10.out.trans (q3.mono L10.out.size))
                        have BKb3 := hiddenG (BK10.out.below q3)
                        have GRb3 := hiddenG (GR10.out.below q3)
                        have m0 := q1.cell (k := 0) rfl
                        have m1 := q1.cell (k := 1) rfl
                        have m2 := q1.cell (k := 2) rfl
                        have m3 := q1.cell (k := 3) rfl
                        have m4 := q1.cell (k := 4) rfl
                        simp only [List.getElem_toArray, List.getElem_cons_zero, List.getElem_cons_succ] at m0 m1 m2 m3 m4
                        clear q1 q2 q3 z3 fz3 NB3 OB3 BB3
                        have GRl3 : Hid (GrG V10b x1 (some ⟨b2, o2, none⟩) (some ⟨b3, o3 + 3, none⟩) d4 ⟨g.name, g.actors, (revG g).edges, es3, (revG g).outs⟩) := ⟨GRb3.out.A, GRb3.out.E, (AtPt.tail (e := e3) (by have q := GRb3.out.I; rw [show (revG g).ins = e3 :: es3 from hE3] at q; exact q)), GRb3.out.O, GRb3.out.l1, GRb3.out.l2, (by show es3.length ≤ _; omega), GRb3.out.l4⟩
                        go_upto_region 30 with (go_at_call 25; (with_reducible refine (CE3.out _ (some ⟨b3, o3 + 3, none⟩) (k3 - 1) GRl3.out).mono ?_); rintro e V11 ⟨rfl, b9⟩; have L11 := hiddenG (LB3.out.trans (b9.mono LB3.out.size)); have BK11 := hiddenG (BKb3.out.below b9); have GR11 := hiddenG (GRb3.out.below b9); clear b9 m0 m1 m2 m3 m4)
                        clear LB3 BKb3 GRb3 GRl3 CE3 hl3 hi3 hE3
                        have z0 := BK11.out.cell (k := 0) rfl
                        have z1 := BK11.out.cell (k := 1) rfl
                        have z2 := BK11.out.cell (k := 2) rfl
                        have z3 := BK11.out.cell (k := 3) rfl
                        have z4 := BK11.out.cell (k := 4) rfl
                        simp only [List.getElem_toArray, List.getElem_cons_zero, List.getElem_cons_succ] at z0 z1 z2 z3 z4
                        rcases hE4 : g.outs.reverse with _ | ⟨e4, es4⟩
                        · have hl4 : g.outs.length = 0 := by simpa using congrArg List.length hE4
                          have hi4 : ¬ (0 : Int) < (g.outs.length : Int) := by omega
                          go_upto_region 35 with fail
                          clear z0 z1 z2 z3 z4 hl4 hi4 hE4
                          go_wp2_with (go_at_call 14; (with_reducible refine (AW.out _).mono ?_); rintro e VE ⟨rfl, ve⟩; have ME := hiddenG (L11.out.trans (ve.mono L11.out.size)); clear ve)
                          go_ret
                          exact ⟨rfl, ME.out⟩
                        · have hl4 : g.outs.length = es4.length + 1 := by simpa using congrArg List.length hE4
                          have hi4 : (0 : Int) < (((es4.length + 1 : Nat)) : Int) := by omega
                          have CE4 : Hid (∀ U y kk, GrG U x1 (some ⟨b2, o2, none⟩) (some ⟨b3, o3, none⟩) y ⟨g.name, g.actors, (revG g).edges, (revG g).ins, es4⟩ → Calls Try.prog 25 #[.agg #[.string (str g.name), .slice x1 g.actors.length d1, .slice (some ⟨b2, o2, none⟩) g.edges.length k2, .slice (some ⟨b3, o3, none⟩) g.ins.length k3, .slice y es4.length kk]] U fun e w' => e = .returned (.int .i64 87) ∧ Below U.heap.size U w') := fun U y kk hg => by
                            have q := check_any ⟨g.name, g.actors, (revG g).edges, (revG g).ins, es4⟩ x1 (some ⟨b2, o2, none⟩) (some ⟨b3, o3, none⟩) y d1 k2 k3 kk U hg
                            have q0 : (firstF ⟨g.name, g.actors, (revG g).edges, (revG g).ins, es4⟩).code = 87 := less_O (g := revG g) SR.out hE4
                            rw [q0] at q
                            simp only [revG, List.length_reverse] at q
                            exact q
                          obtain ⟨b4, o4, hd4⟩ : ∃ b o, d4 = some ⟨b, o, none⟩ := by
                            rcases GR11.out.O with e | ⟨b, o, e, -⟩
                            · exact absurd (show g.outs.reverse = [] from e) (by rw [hE4]; exact List.cons_ne_nil _ _)
                            · exact ⟨b, o, e⟩
                          subst hd4
                          rw [hl4] at z4 hcp4
                          by_cases hk41 : k4 = 1
                          · subst hk41
                            have HZ4 : Hid (es4.length = 0) := by show _ = _; omega
                            clear hcp4
                            go_upto_region 32 with fail
                            have bb4 := (Below.refl V11.heap.size V11).alloc (Nat.le_refl _) (.cells #[.string (str g.name), .slice x1 g.actors.length d1, .slice (some ⟨b2, o2, none⟩) g.edges.length k2, .slice (some ⟨b3, o3, none⟩) g.ins.length k3, .slice (some ⟨b4, o4, none⟩) (es4.length + 1) 1] 31)
                            have NB4 := hiddenG (blkA_new 31 V11 #[.string (str g.name), .slice x1 g.actors.length d1, .slice (some ⟨b2, o2, none⟩) g.edges.length k2, .slice (some ⟨b3, o3, none⟩) g.ins.length k3, .slice (some ⟨b4, o4, none⟩) (es4.length + 1) 1])
                            obtain ⟨nb4, hnb4⟩ : ∃ q, V11.heap.size = q := ⟨_, rfl⟩
                            rw [hnb4] at NB4 ⊢
                            have OB4 := hiddenG (BK11.out.below bb4)
                            have BB4 := hiddenG bb4
                            generalize V11.alloc (.cells #[.string (str g.name), .slice x1 g.actors.length d1, .slice (some ⟨b2, o2, none⟩) g.edges.length k2, .slice (some ⟨b3, o3, none⟩) g.ins.length k3, .slice (some ⟨b4, o4, none⟩) (es4.length + 1) 1] 31) = V11a at *
                            clear bb4 z0 z1 z2 z3 z4
                            have z4 := OB4.out.cell (k := 4) rfl
                            simp only [List.getElem_toArray, List.getElem_cons_zero, List.getElem_cons_succ] at z4
                            rw [hl4] at z4
                            have m4 := NB4.out.cell (k := 4) rfl
                            simp only [List.getElem_toArray, List.getElem_cons_zero, List.getElem_cons_succ] at m4
                            have fz4 := NB4.out.frozen 4
                            go_upto_region 33 with fail
                            have q1 := NB4.out.set 4 (.slice (some ⟨b4, o4, none⟩) es4.length 0)
                            simp only [List.setIfInBounds_toArray, List.set_cons_zero, List.set_cons_succ] at q1
                            have q2 := But.set V11a nb4 4 (.slice (some ⟨b4, o4, none⟩) es4.length 0)
                            have q3 : Below V11.heap.size V11 (V11a.setCell ⟨nb4, 4, none⟩ (.slice (some ⟨b4, o4, none⟩) es4.length 0)) := BB4.out.trans (q2.below (by omega) BB4.out.size)
                            generalize V11a.setCell ⟨nb4, 4, none⟩ (.slice (some ⟨b4, o4, none⟩) es4.length 0) = V11b at *
                            have LB4 := hiddenG (L11.out.trans (q3.mono L11.out.size))
                            have BKb4 := hiddenG (BK11.out.below q3)
                            have GRb4 := hiddenG (GR11.out.below q3)
                            have m0 := q1.cell (k := 0) rfl
                            have m1 := q1.cell (k := 1) rfl
                            have m2 := q1.cell (k := 2) rfl
                            have m3 := q1.cell (k := 3) rfl
                            have m4 := q1.cell (k := 4) rfl
                            simp only [List.getElem_toArray, List.getElem_cons_zero, List.getElem_cons_succ] at m0 m1 m2 m3 m4
                            clear q1 q2 q3 z4 fz4 NB4 OB4 BB4
                            have GRl4 : Hid (GrG V11b x1 (some ⟨b2, o2, none⟩) (some ⟨b3, o3, none⟩) (some ⟨b4, o4, none⟩) ⟨g.name, g.actors, (revG g).edges, (revG g).ins, es4⟩) := ⟨GRb4.out.A, GRb4.out.E, GRb4.out.I, (.inl (List.eq_nil_of_length_eq_zero HZ4.out)), GRb4.out.l1, GRb4.out.l2, GRb4.out.l3, (by show es4.length ≤ _; omega)⟩
                            go_upto_region 35 with (go_at_call 25; (with_reducible refine (CE4.out _ (some ⟨b4, o4, none⟩) 0 GRl4.out).mono ?_); rintro e V12 ⟨rfl, b9⟩; have L12 := hiddenG (LB4.out.trans (b9.mono LB4.out.size)); have BK12 := hiddenG (BKb4.out.below b9); have GR12 := hiddenG (GRb4.out.below b9); clear b9 m0 m1 m2 m3 m4)
                            clear LB4 BKb4 GRb4 GRl4 CE4 hl4 hi4 hE4
                            go_wp2_with (go_at_call 14; (with_reducible refine (AW.out _).mono ?_); rintro e VE ⟨rfl, ve⟩; have ME := hiddenG (L12.out.trans (ve.mono L12.out.size)); clear ve)
                            go_ret
                            exact ⟨rfl, ME.out⟩
                          · have hk42 : ¬ k4 = 1 := hk41
                            go_upto_region 32 with fail
                            have bb4 := (Below.refl V11.heap.size V11).alloc (Nat.le_refl _) (.cells #[.string (str g.name), .slice x1 g.actors.length d1, .slice (some ⟨b2, o2, none⟩) g.edges.length k2, .slice (some ⟨b3, o3, none⟩) g.ins.length k3, .slice (some ⟨b4, o4, none⟩) (es4.length + 1) k4] 31)
                            have NB4 := hiddenG (blkA_new 31 V11 #[.string (str g.name), .slice x1 g.actors.length d1, .slice (some ⟨b2, o2, none⟩) g.edges.length k2, .slice (some ⟨b3, o3, none⟩) g.ins.length k3, .slice (some ⟨b4, o4, none⟩) (es4.length + 1) k4])
                            obtain ⟨nb4, hnb4⟩ : ∃ q, V11.heap.size = q := ⟨_, rfl⟩
                            rw [hnb4] at NB4 ⊢
                            have OB4 := hiddenG (BK11.out.below bb4)
                            have BB4 := hiddenG bb4
                            generalize V11.alloc (.cells #[.string (str g.name), .slice x1 g.actors.length d1, .slice (some ⟨b2, o2, none⟩) g.edges.length k2, .slice (some ⟨b3, o3, none⟩) g.ins.length k3, .slice (some ⟨b4, o4, none⟩) (es4.length + 1) k4] 31) = V11a at *
                            clear bb4 z0 z1 z2 z3 z4
                            have z4 := OB4.out.cell (k := 4) rfl
                            simp only [List.getElem_toArray, List.getElem_cons_zero, List.getElem_cons_succ] at z4
                            rw [hl4] at z4
                            have m4 := NB4.out.cell (k := 4) rfl
                            simp only [List.getElem_toArray, List.getElem_cons_zero, List.getElem_cons_succ] at m4
                            have fz4 := NB4.out.frozen 4
                            go_upto_region 33 with fail
                            have q1 := NB4.out.set 4 (.slice (some ⟨b4, o4 + 3, none⟩) es4.length (k4 - 1))
                            simp only [List.setIfInBounds_toArray, List.set_cons_zero, List.set_cons_succ] at q1
                            have q2 := But.set V11a nb4 4 (.slice (some ⟨b4, o4 + 3, none⟩) es4.length (k4 - 1))
                            have q3 : Below V11.heap.size V11 (V11a.setCell ⟨nb4, 4, none⟩ (.slice (some ⟨b4, o4 + 3, none⟩) es4.length (k4 - 1))) := BB4.out.trans (q2.below (by omega) BB4.out.size)
                            generalize V11a.setCell ⟨nb4, 4, none⟩ (.slice (some ⟨b4, o4 + 3, none⟩) es4.length (k4 - 1)) = V11b at *
                            have LB4 := hiddenG (L11.out.trans (q3.mono L11.out.size))
                            have BKb4 := hiddenG (BK11.out.below q3)
                            have GRb4 := hiddenG (GR11.out.below q3)
                            have m0 := q1.cell (k := 0) rfl
                            have m1 := q1.cell (k := 1) rfl
                            have m2 := q1.cell (k := 2) rfl
                            have m3 := q1.cell (k := 3) rfl
                            have m4 := q1.cell (k := 4) rfl
                            simp only [List.getElem_toArray, List.getElem_cons_zero, List.getElem_cons_succ] at m0 m1 m2 m3 m4
                            clear q1 q2 q3 z4 fz4 NB4 OB4 BB4
                            have GRl4 : Hid (GrG V11b x1 (some ⟨b2, o2, none⟩) (some ⟨b3, o3, none⟩) (some ⟨b4, o4 + 3, none⟩) ⟨g.name, g.actors, (revG g).edges, (revG g).ins, es4⟩) := ⟨GRb4.out.A, GRb4.out.E, GRb4.out.I, (AtPt.tail (e := e4) (by have q := GRb4.out.O; rw [show (revG g).outs = e4 :: es4 from hE4] at q; exact q)), GRb4.out.l1, GRb4.out.l2, GRb4.out.l3, (by show es4.length ≤ _; omega)⟩
                            go_upto_region 35 with (go_at_call 25; (with_reducible refine (CE4.out _ (some ⟨b4, o4 + 3, none⟩) (k4 - 1) GRl4.out).mono ?_); rintro e V12 ⟨rfl, b9⟩; have L12 := hiddenG (LB4.out.trans (b9.mono LB4.out.size)); have BK12 := hiddenG (BKb4.out.below b9); have GR12 := hiddenG (GRb4.out.below b9); clear b9 m0 m1 m2 m3 m4)
                            clear LB4 BKb4 GRb4 GRl4 CE4 hl4 hi4 hE4
                            go_wp2_with (go_at_call 14; (with_reducible refine (AW.out _).mono ?_); rintro e VE ⟨rfl, ve⟩; have ME := hiddenG (L12.out.trans (ve.mono L12.out.size)); clear ve)
                            go_ret
                            exact ⟨rfl, ME.out⟩
end Go.Proofs.Ytlfmmdioondaoaa

/- Texts of one chain. -/
import Derived.Test.YtgoconkleicmkaaPartQ
import Derived.Test.YtgoconkleicmkaaPartGraphBuilds23
import Derived.Test.YtgoconkleicmkaaPartGraphBuilds24
import Derived.Test.YtgoconkleicmkaaPartGraphBuilds4
import Derived.Test.YtgoconkleicmkaaPartGraphBuilds22
set_option maxRecDepth 100000
set_option maxHeartbeats 16000000
namespace Go.Proofs.Ytgoconkleicmkaa
open Go.ChangeShapes Go.WideShapes Go.ChangeAt Go.RowKit
def nR (g : GG) (a p : Int) : UA := ⟨(zI g.A a.toNat).name, p, 0⟩
def wS (a : GA) : yO := ⟨1, a.name, (pQ a.tag).1, a.params, qO, qO, 0⟩
def vW (g : GG) (e : GE) : yO := ⟨2, [], [], e.start, nR g e.f e.fp, nR g e.t e.tp, 0⟩
def uZ (g : GG) (p : GP) : yO := ⟨3, p.name, [], [], qO, nR g p.actor p.port, 0⟩
def tY (g : GG) (p : GP) : yO := ⟨4, p.name, [], [], nR g p.actor p.port, qO, 0⟩
def tK (g : GG) : List yO := g.A.map wS ++ (g.E.map (vW g) ++ (g.ins.map (uZ g) ++ g.outs.map (tY g)))
def TZ (p : UA) : Value := .agg #[.string (zW p.name), .int .i64 p.port, .int .i64 p.place]
def lZ (x : yO) (w : World) (e : Ending) (w' : World) : Prop := ∃ a c, e = .returned (.agg (ZR x.kind x.name x.tag (.slice a x.nums.length c) x.frm x.tgt x.place)) /\ yS w.heap.size w' a c x.nums /\ Below w.heap.size w w'
theorem vG (g : GG) (a1 a2 a3 a4 : Option Addr) (c1 c2 c3 c4 : Nat) (a p : Int) (w : World) (hA : YI w a1 g.A) (h0 : 0 <= a) (hl : a < (g.A.length : Int)) (hn : g.A.length <= 1000) :
 Calls Try.prog 58 #[.agg #[.string (zW g.name), .slice a1 g.A.length c1, .slice a2 g.E.length c2, .slice a3 g.ins.length c3, .slice a4 g.outs.length c4], .int .i64 a, .int .i64 p] w fun e w' => e = .returned (TZ (nR g a p)) /\ Below w.heap.size w w' := by
 obtain ⟨k, rfl⟩ : ∃ k : Nat, a = (k : Int) := ⟨a.toNat, by omega⟩
 have hk : k < g.A.length := by omega
 have ba := ((Below.refl w.heap.size w).alloc (Nat.le_refl _) (.cells #[.string (zW g.name), .slice a1 g.A.length c1, .slice a2 g.E.length c2, .slice a3 g.ins.length c3, .slice a4 g.outs.length c4] 31)).alloc (by simp) (.cells #[.string ⟨#[]⟩, .int .i64 0, .int .i64 0] 43)
 have gg := (zU 31 w #[.string (zW g.name), .slice a1 g.A.length c1, .slice a2 g.E.length c2, .slice a3 g.ins.length c3, .slice a4 g.outs.length c4]).below ((Below.refl _ _).alloc (Nat.le_refl _) (.cells #[.string ⟨#[]⟩, .int .i64 0, .int .i64 0] 43))
 have nr : zN 43 (w.heap.size + 1) ((w.alloc (.cells #[.string (zW g.name), .slice a1 g.A.length c1, .slice a2 g.E.length c2, .slice a3 g.ins.length c3, .slice a4 g.outs.length c4] 31)).alloc (.cells #[.string ⟨#[]⟩, .int .i64 0, .int .i64 0] 43)) #[.string ⟨#[]⟩, .int .i64 0, .int .i64 0] := by
  have h3 := zU 43 (w.alloc (.cells #[.string (zW g.name), .slice a1 g.A.length c1, .slice a2 g.E.length c2, .slice a3 g.ins.length c3, .slice a4 g.outs.length c4] 31)) #[.string ⟨#[]⟩, .int .i64 0, .int .i64 0]
  rw [World.size_alloc] at h3
  exact h3
 have BA := zZ ba
 have NR := zZ nr
 have x1 := gg.cell (k := 1) rfl
 rcases hA with e | ⟨b, off, rfl, hc⟩
 ·rw [e] at hk; exact absurd hk (Nat.not_lt_zero _)
 have hcc := yF ba (hc k hk).1
 have hnI : (g.A.length : Int) <= 1000 := by omega
 have ep : TZ (nR g (k : Int) p) = .agg #[.string (zW (zI g.A k).name), .int .i64 p, .int .i64 0] := by
  unfold TZ nR
  rw [Int.toNat_natCast]
 rw [ep]
 generalize (zI g.A k).name = nm at *
 generalize g.A.length = N at *
 clear hc ba gg nr ep hn
 go_enter Try.func58, Try.ntmps58
 go_upto_region 1 with fail
 generalize (w.alloc (.cells #[.string (zW g.name), .slice (some ⟨b, off, none⟩) N c1, .slice a2 g.E.length c2, .slice a3 g.ins.length c3, .slice a4 g.outs.length c4] 31)).alloc (.cells #[.string ⟨#[]⟩, .int .i64 0, .int .i64 0] 43) = W0 at *
 go_wp2_with (refine zM _ rfl 43 (.tmp 6) (.tmp 14) rfl rfl (w.heap.size + 1) 43 _ _ rfl rfl NR.out sizQ rfl rfl ?_; intro w9 hN hU; have N9 := zZ hN; have U9 := zZ hU; clear hN hU)
 have t0 : w9.cell? ⟨w.heap.size + 1, 0, none⟩ = some (.string (zW nm)) := N9.out.cell rfl
 have t1 : w9.cell? ⟨w.heap.size + 1, 1, none⟩ = some (.int .i64 p) := N9.out.cell rfl
 have t2 : w9.cell? ⟨w.heap.size + 1, 2, none⟩ = some (.int .i64 0) := N9.out.cell rfl
 refine bodyPost_ret (v := .agg #[.string (zW nm), .int .i64 p, .int .i64 0]) (by simp [results, Try.results58, go_sem, t0, t1, t2]) rfl ?_
 exact ⟨rfl, BA.out.trans (U9.out.below (Nat.le_succ _) BA.out.size)⟩
def uG (V : World) (zs : List Int) (u : World) (v : Value) : Prop := ∃ a c, v = .slice a zs.length c /\ yS V.heap.size u a c zs
theorem uG.later {V u u' : World} {zs : List Int} {v : Value} (h : uG V zs u v) (hb : Below u.heap.size u u') : uG V zs u' v := by
 obtain ⟨a, c, h1, h2⟩ := h
 exact ⟨a, c, h1, h2.later hb⟩
theorem nL {V w w' : World} {zs : List Int} {e : Ending} (h : uE w zs.length zs e w') (hV : V.heap.size <= w.heap.size) : ∃ v, e = .returned v /\ Below w.heap.size w w' /\ uG V zs w' v := by
 obtain ⟨a, c, h1, h2, h3⟩ := h
 exact ⟨_, h1, h3, a, c, rfl, h2.mono hV⟩
theorem kX (a : GA) (x : Option Addr) (c : Nat) (w : World) (ht : a.tag <= 255) (h : lJ w x a.params.length c a.params) :
 Calls Try.prog 56 #[.agg #[.string (zW a.name), .int .u8 (a.tag : Int), .slice x a.params.length c]] w (lZ (wS a) w) := by
 have ba := ((Below.refl w.heap.size w).alloc (Nat.le_refl _) (.cells #[.string (zW a.name), .int .u8 (a.tag : Int), .slice x a.params.length c] 61)).alloc (by simp) (.cells #[.int .u8 0, .string ⟨#[]⟩, .string ⟨#[]⟩, .slice none 0 0, .string ⟨#[]⟩, .int .i64 0, .int .i64 0, .string ⟨#[]⟩, .int .i64 0, .int .i64 0, .int .i64 0] 45)
 have gg := (zU 61 w #[.string (zW a.name), .int .u8 (a.tag : Int), .slice x a.params.length c]).below ((Below.refl _ _).alloc (Nat.le_refl _) (.cells #[.int .u8 0, .string ⟨#[]⟩, .string ⟨#[]⟩, .slice none 0 0, .string ⟨#[]⟩, .int .i64 0, .int .i64 0, .string ⟨#[]⟩, .int .i64 0, .int .i64 0, .int .i64 0] 45))
 have nr : zN 45 (w.heap.size + 1) ((w.alloc (.cells #[.string (zW a.name), .int .u8 (a.tag : Int), .slice x a.params.length c] 61)).alloc (.cells #[.int .u8 0, .string ⟨#[]⟩, .string ⟨#[]⟩, .slice none 0 0, .string ⟨#[]⟩, .int .i64 0, .int .i64 0, .string ⟨#[]⟩, .int .i64 0, .int .i64 0, .int .i64 0] 45)) #[.int .u8 0, .string ⟨#[]⟩, .string ⟨#[]⟩, .slice none 0 0, .string ⟨#[]⟩, .int .i64 0, .int .i64 0, .string ⟨#[]⟩, .int .i64 0, .int .i64 0, .int .i64 0] := by
  have h3 := zU 45 (w.alloc (.cells #[.string (zW a.name), .int .u8 (a.tag : Int), .slice x a.params.length c] 61)) #[.int .u8 0, .string ⟨#[]⟩, .string ⟨#[]⟩, .slice none 0 0, .string ⟨#[]⟩, .int .i64 0, .int .i64 0, .string ⟨#[]⟩, .int .i64 0, .int .i64 0, .int .i64 0]
  rw [World.size_alloc] at h3
  exact h3
 have BA := zZ ba
 have NR := zZ nr
 have GGb := zZ gg
 have HA := zZ (h.below ba)
 have x1 := gg.cell (k := 1) rfl
 have WD := zZ (fun V => aJ a.tag V ht)
 have HX : Hid (wS a = ⟨1, a.name, (pQ a.tag).1, a.params, qO, qO, 0⟩) := by rfl
 rw [HX.out]
 generalize (pQ a.tag).2 = er at *
 have hw : ∃ wd, wd = vU (pQ a.tag).1 /\ wd = zW (pQ a.tag).1 := ⟨_, rfl, rfl⟩
 obtain ⟨wd, hw1, hw2⟩ := hw
 have HW2 := zZ hw2
 rw [<- hw1] at WD
 generalize (pQ a.tag).1 = wl at *
 obtain ⟨nm, tg, zs⟩ := a
 simp only at *
 clear ba gg nr h hw1 hw2 HX
 go_enter Try.func56, Try.ntmps56
 go_upto_region 1 with fail
 generalize (w.alloc (.cells #[.string (zW nm), .int .u8 (tg : Int), .slice x zs.length c] 61)).alloc (.cells #[.int .u8 0, .string ⟨#[]⟩, .string ⟨#[]⟩, .slice none 0 0, .string ⟨#[]⟩, .int .i64 0, .int .i64 0, .string ⟨#[]⟩, .int .i64 0, .int .i64 0, .int .i64 0] 45) = W0 at *
 go_upto_region 2 with (go_at_call 76; (with_reducible refine (WD.out _).mono ?_); rintro e w1 ⟨rfl, b1⟩; have B1 := zZ b1; clear b1 x1)
 have g1 := GGb.out.below B1.out
 have NR1 := zZ (NR.out.below B1.out)
 have CO : Hid (∀ V, Below w1.heap.size w1 V -> Calls Try.prog 44 #[.slice x zs.length c] V (uE V zs.length zs)) := fun V hb => sS x zs zs.length c V ((HA.out.below B1.out).below hb)
 have z0 : w1.cell? ⟨w.heap.size, 0, none⟩ = some (.string (zW nm)) := g1.cell rfl
 have z2 : w1.cell? ⟨w.heap.size, 2, none⟩ = some (.slice x zs.length c) := g1.cell rfl
 clear g1
 refine zP 7 (fun i u v => match i with
  | 0 => v = .pointer (some ⟨w.heap.size, 0, none⟩)
  | 1 => v = .string (zW nm)
  | 2 => v = .string wd
  | 3 => v = .pointer (some ⟨w.heap.size, 2, none⟩)
  | 4 => v = .slice x zs.length c
  | 5 => uG w1 zs u v
  | 6 => ∃ q, v = .agg #[.int .u8 1, .string (zW nm), .string wd, q, .string ⟨#[]⟩, .int .i64 0, .int .i64 0, .string ⟨#[]⟩, .int .i64 0, .int .i64 0, .int .i64 0] /\ uG w1 zs u q
  | _ => True) (by kernel_rfl) (by kernel_rfl) (by kernel_rfl) (by kernel_rfl) ?_ ?_ ?_
 ·intro i w v w' h hb
  match i, h with
  | 0, h => exact h
  | 1, h => exact h
  | 2, h => exact h
  | 3, h => exact h
  | 4, h => exact h
  | 5, h => exact uG.later h hb
  | 6, h => obtain ⟨q, h1, h2⟩ := h; exact ⟨q, h1, h2.later hb⟩
  | _ + 7, _ => trivial
 ·intro i o ρ w' hi ho hb hc hf hfr zY
  have k0 := zX hb z0
  have k2 := zX hb z2
  match i, hi with
  | 0, _ =>
   simp only [qS] at ho
   subst ho
   have ts : ρ (.tmp 1) = .pointer (some ⟨w.heap.size, 0, none⟩) := hfr 1 (by kernel_rfl)
   simp [go_sem, ts]
   exact qB
  | 1, _ =>
   simp only [qS] at ho
   subst ho
   have ts : ρ (.tmp 11) = .pointer (some ⟨w.heap.size, 0, none⟩) := zY 0 11 (by kernel_rfl) (by kernel_rfl)
   simp [go_sem, ts, k0]
   exact qB
  | 2, _ =>
   simp only [qS] at ho
   subst ho
   have ts : ρ (.tmp 3) = .string wd := hfr 3 (by kernel_rfl)
   simp [go_sem, ts]
   exact qB
  | 3, _ =>
   simp only [qS] at ho
   subst ho
   have ts : ρ (.tmp 1) = .pointer (some ⟨w.heap.size, 0, none⟩) := hfr 1 (by kernel_rfl)
   simp [go_sem, ts]
   exact qB
  | 4, _ =>
   simp only [qS] at ho
   subst ho
   have ts : ρ (.tmp 14) = .pointer (some ⟨w.heap.size, 2, none⟩) := zY 3 14 (by kernel_rfl) (by kernel_rfl)
   simp [go_sem, ts, k2]
   exact qB
  | 5, _ =>
   simp only [qS] at ho
   subst ho
   have ts : ρ (.tmp 15) = .slice x zs.length c := zY 4 15 (by kernel_rfl) (by kernel_rfl)
   simp [go_sem, ts, hf]
   exact ⟨rfl, (CO.out w' hb).mono fun e w'' hh => nL hh hb.size⟩
  | 6, _ =>
   simp only [qS] at ho
   subst ho
   obtain ⟨qa, qc, e5, h5⟩ : uG w1 zs w' (ρ (.tmp 16)) := zY 5 16 (by kernel_rfl) (by kernel_rfl)
   have t1 : ρ (.tmp 12) = .string (zW nm) := zY 1 12 (by kernel_rfl) (by kernel_rfl)
   have t2 : ρ (.tmp 13) = .string wd := zY 2 13 (by kernel_rfl) (by kernel_rfl)
   simp [go_sem, e5, t1, t2, hc]
   exact ⟨Below.refl _ _, _, rfl, qa, qc, rfl, h5⟩
 intro V w9 q9 hS
 have e0 : V 0 = .pointer (some ⟨w.heap.size, 0, none⟩) := hS 0 (by decide)
 have e1 : V 1 = .string (zW nm) := hS 1 (by decide)
 have e2 : V 2 = .string wd := hS 2 (by decide)
 have e3 : V 3 = .pointer (some ⟨w.heap.size, 2, none⟩) := hS 3 (by decide)
 have e4 : V 4 = .slice x zs.length c := hS 4 (by decide)
 obtain ⟨qa5, qc5, e5, -⟩ : uG w1 zs w9 (V 5) := hS 5 (by decide)
 obtain ⟨_, e6, qa, qc, rfl, M6⟩ : ∃ q, V 6 = .agg #[.int .u8 1, .string (zW nm), .string wd, q, .string ⟨#[]⟩, .int .i64 0, .int .i64 0, .string ⟨#[]⟩, .int .i64 0, .int .i64 0, .int .i64 0] /\ uG w1 zs w9 q := hS 6 (by decide)
 simp only [List.drop_succ_cons, List.drop_zero, List.take_succ_cons, List.take_zero, yL, e0, e1, e2, e3, e4, e5, e6]
 clear hS e0 e1 e2 e3 e4 e5 e6 V
 simp only [Act.put, qU]
 have NR9 := zZ (NR1.out.below q9)
 have M9 := zZ M6
 have B9 := zZ ((BA.out.trans (B1.out.mono BA.out.size)).trans (q9.mono (BA.out.trans (B1.out.mono BA.out.size)).size))
 have SW := zZ (Nat.le_trans BA.out.size B1.out.size)
 have SW2 : Hid (w.heap.size + 1 < w1.heap.size) := NR1.out.lt
 clear M6 q9
 go_wp2_with (refine zM _ rfl 45 (.tmp 2) (.tmp 17) rfl rfl (w.heap.size + 1) 45 _ _ rfl rfl NR9.out sizI rfl rfl ?_; intro w8 hN hU; have N8 := zZ hN; have U8 := zZ hU; clear hN hU)
 have t0 : w8.cell? ⟨w.heap.size + 1, 0, none⟩ = some (.int .u8 1) := N8.out.cell rfl
 have t1 : w8.cell? ⟨w.heap.size + 1, 1, none⟩ = some (.string (zW nm)) := N8.out.cell rfl
 have t2 : w8.cell? ⟨w.heap.size + 1, 2, none⟩ = some (.string wd) := N8.out.cell rfl
 have t3 : w8.cell? ⟨w.heap.size + 1, 3, none⟩ = some (.slice qa zs.length qc) := N8.out.cell rfl
 have t4 : w8.cell? ⟨w.heap.size + 1, 4, none⟩ = some (.string ⟨#[]⟩) := N8.out.cell rfl
 have t5 : w8.cell? ⟨w.heap.size + 1, 5, none⟩ = some (.int .i64 0) := N8.out.cell rfl
 have t6 : w8.cell? ⟨w.heap.size + 1, 6, none⟩ = some (.int .i64 0) := N8.out.cell rfl
 have t7 : w8.cell? ⟨w.heap.size + 1, 7, none⟩ = some (.string ⟨#[]⟩) := N8.out.cell rfl
 have t8 : w8.cell? ⟨w.heap.size + 1, 8, none⟩ = some (.int .i64 0) := N8.out.cell rfl
 have t9 : w8.cell? ⟨w.heap.size + 1, 9, none⟩ = some (.int .i64 0) := N8.out.cell rfl
 have t10 : w8.cell? ⟨w.heap.size + 1, 10, none⟩ = some (.int .i64 0) := N8.out.cell rfl
 refine bodyPost_ret (v := .agg #[.int .u8 1, .string (zW nm), .string wd, .slice qa zs.length qc, .string ⟨#[]⟩, .int .i64 0, .int .i64 0, .string ⟨#[]⟩, .int .i64 0, .int .i64 0, .int .i64 0]) (by simp [results, Try.results56, go_sem, t0, t1, t2, t3, t4, t5, t6, t7, t8, t9, t10]) rfl ?_
 have hw := HW2.out
 subst hw
 refine ⟨qa, qc, rfl, ?_, B9.out.trans (U8.out.below (Nat.le_succ _) B9.out.size)⟩
 have m := M9.out.mono SW.out
 refine yS.keep (w := w9) m fun y hy => U8.out.block _ (m.lt y hy).2 (fun e => ?_)
 exact absurd (Nat.lt_of_lt_of_le SW2.out (M9.out.lt y hy).1) (by rw [e]; exact Nat.lt_irrefl _)
theorem jH (g : GG) (a1 a2 a3 a4 : Option Addr) (c1 c2 c3 c4 : Nat) (ef efp et etp : Int) (zs : List Int) (x : Option Addr) (c : Nat) (w : World) (hA : YI w a1 g.A) (hn : g.A.length <= 1000) (f0 : 0 <= ef) (f1 : ef < (g.A.length : Int)) (t0 : 0 <= et) (t1 : et < (g.A.length : Int)) (h : lJ w x zs.length c zs) :
 Calls Try.prog 57 #[.agg #[.string (zW g.name), .slice a1 g.A.length c1, .slice a2 g.E.length c2, .slice a3 g.ins.length c3, .slice a4 g.outs.length c4], .agg #[.int .i64 ef, .int .i64 efp, .int .i64 et, .int .i64 etp, .slice x zs.length c]] w (lZ (vW g ⟨ef, efp, et, etp, zs⟩) w) := by
 have ba := (((Below.refl w.heap.size w).alloc (Nat.le_refl _) (.cells #[.string (zW g.name), .slice a1 g.A.length c1, .slice a2 g.E.length c2, .slice a3 g.ins.length c3, .slice a4 g.outs.length c4] 31)).alloc (by simp) (.cells #[.int .i64 ef, .int .i64 efp, .int .i64 et, .int .i64 etp, .slice x zs.length c] 64)).alloc (by simp; omega) (.cells #[.int .u8 0, .string ⟨#[]⟩, .string ⟨#[]⟩, .slice none 0 0, .string ⟨#[]⟩, .int .i64 0, .int .i64 0, .string ⟨#[]⟩, .int .i64 0, .int .i64 0, .int .i64 0] 45)
 have gg := ((zU 31 w #[.string (zW g.name), .slice a1 g.A.length c1, .slice a2 g.E.length c2, .slice a3 g.ins.length c3, .slice a4 g.outs.length c4]).below ((Below.refl _ _).alloc (Nat.le_refl _) (.cells #[.int .i64 ef, .int .i64 efp, .int .i64 et, .int .i64 etp, .slice x zs.length c] 64))).below ((Below.refl _ _).alloc (Nat.le_refl _) (.cells #[.int .u8 0, .string ⟨#[]⟩, .string ⟨#[]⟩, .slice none 0 0, .string ⟨#[]⟩, .int .i64 0, .int .i64 0, .string ⟨#[]⟩, .int .i64 0, .int .i64 0, .int .i64 0] 45))
 have ge : zN 64 (w.heap.size + 1) (((w.alloc (.cells #[.string (zW g.name), .slice a1 g.A.length c1, .slice a2 g.E.length c2, .slice a3 g.ins.length c3, .slice a4 g.outs.length c4] 31)).alloc (.cells #[.int .i64 ef, .int .i64 efp, .int .i64 et, .int .i64 etp, .slice x zs.length c] 64)).alloc (.cells #[.int .u8 0, .string ⟨#[]⟩, .string ⟨#[]⟩, .slice none 0 0, .string ⟨#[]⟩, .int .i64 0, .int .i64 0, .string ⟨#[]⟩, .int .i64 0, .int .i64 0, .int .i64 0] 45)) #[.int .i64 ef, .int .i64 efp, .int .i64 et, .int .i64 etp, .slice x zs.length c] := by
  have h3 := (zU 64 (w.alloc (.cells #[.string (zW g.name), .slice a1 g.A.length c1, .slice a2 g.E.length c2, .slice a3 g.ins.length c3, .slice a4 g.outs.length c4] 31)) #[.int .i64 ef, .int .i64 efp, .int .i64 et, .int .i64 etp, .slice x zs.length c]).below ((Below.refl _ _).alloc (Nat.le_refl _) (.cells #[.int .u8 0, .string ⟨#[]⟩, .string ⟨#[]⟩, .slice none 0 0, .string ⟨#[]⟩, .int .i64 0, .int .i64 0, .string ⟨#[]⟩, .int .i64 0, .int .i64 0, .int .i64 0] 45))
  rw [World.size_alloc] at h3
  exact h3
 have nr : zN 45 (w.heap.size + 2) (((w.alloc (.cells #[.string (zW g.name), .slice a1 g.A.length c1, .slice a2 g.E.length c2, .slice a3 g.ins.length c3, .slice a4 g.outs.length c4] 31)).alloc (.cells #[.int .i64 ef, .int .i64 efp, .int .i64 et, .int .i64 etp, .slice x zs.length c] 64)).alloc (.cells #[.int .u8 0, .string ⟨#[]⟩, .string ⟨#[]⟩, .slice none 0 0, .string ⟨#[]⟩, .int .i64 0, .int .i64 0, .string ⟨#[]⟩, .int .i64 0, .int .i64 0, .int .i64 0] 45)) #[.int .u8 0, .string ⟨#[]⟩, .string ⟨#[]⟩, .slice none 0 0, .string ⟨#[]⟩, .int .i64 0, .int .i64 0, .string ⟨#[]⟩, .int .i64 0, .int .i64 0, .int .i64 0] := by
  have h3 := zU 45 ((w.alloc (.cells #[.string (zW g.name), .slice a1 g.A.length c1, .slice a2 g.E.length c2, .slice a3 g.ins.length c3, .slice a4 g.outs.length c4] 31)).alloc (.cells #[.int .i64 ef, .int .i64 efp, .int .i64 et, .int .i64 etp, .slice x zs.length c] 64)) #[.int .u8 0, .string ⟨#[]⟩, .string ⟨#[]⟩, .slice none 0 0, .string ⟨#[]⟩, .int .i64 0, .int .i64 0, .string ⟨#[]⟩, .int .i64 0, .int .i64 0, .int .i64 0]
  rw [World.size_alloc, World.size_alloc] at h3
  exact h3
 have BA := zZ ba
 have NR := zZ nr
 have HA := zZ (h.below ba)
 have AA := zZ (hA.below ba)
 have y0 := gg.cell (k := 0) rfl
 have y1 := gg.cell (k := 1) rfl
 have y2 := gg.cell (k := 2) rfl
 have y3 := gg.cell (k := 3) rfl
 have y4 := gg.cell (k := 4) rfl
 have z0 := ge.cell (k := 0) rfl
 have z1 := ge.cell (k := 1) rfl
 have z2 := ge.cell (k := 2) rfl
 have z3 := ge.cell (k := 3) rfl
 have z4 := ge.cell (k := 4) rfl
 have Pef : Hid (∀ V, Below (((w.alloc (.cells #[.string (zW g.name), .slice a1 g.A.length c1, .slice a2 g.E.length c2, .slice a3 g.ins.length c3, .slice a4 g.outs.length c4] 31)).alloc (.cells #[.int .i64 ef, .int .i64 efp, .int .i64 et, .int .i64 etp, .slice x zs.length c] 64)).alloc (.cells #[.int .u8 0, .string ⟨#[]⟩, .string ⟨#[]⟩, .slice none 0 0, .string ⟨#[]⟩, .int .i64 0, .int .i64 0, .string ⟨#[]⟩, .int .i64 0, .int .i64 0, .int .i64 0] 45)).heap.size (((w.alloc (.cells #[.string (zW g.name), .slice a1 g.A.length c1, .slice a2 g.E.length c2, .slice a3 g.ins.length c3, .slice a4 g.outs.length c4] 31)).alloc (.cells #[.int .i64 ef, .int .i64 efp, .int .i64 et, .int .i64 etp, .slice x zs.length c] 64)).alloc (.cells #[.int .u8 0, .string ⟨#[]⟩, .string ⟨#[]⟩, .slice none 0 0, .string ⟨#[]⟩, .int .i64 0, .int .i64 0, .string ⟨#[]⟩, .int .i64 0, .int .i64 0, .int .i64 0] 45)) V -> Calls Try.prog 58 #[.agg #[.string (zW g.name), .slice a1 g.A.length c1, .slice a2 g.E.length c2, .slice a3 g.ins.length c3, .slice a4 g.outs.length c4], .int .i64 ef, .int .i64 efp] V fun e w' => e = .returned (.agg #[.string (zW (zI g.A ef.toNat).name), .int .i64 efp, .int .i64 0]) /\ Below V.heap.size V w') := fun V hb => vG g a1 a2 a3 a4 c1 c2 c3 c4 ef efp V (AA.out.below hb) f0 f1 hn
 have Pet : Hid (∀ V, Below (((w.alloc (.cells #[.string (zW g.name), .slice a1 g.A.length c1, .slice a2 g.E.length c2, .slice a3 g.ins.length c3, .slice a4 g.outs.length c4] 31)).alloc (.cells #[.int .i64 ef, .int .i64 efp, .int .i64 et, .int .i64 etp, .slice x zs.length c] 64)).alloc (.cells #[.int .u8 0, .string ⟨#[]⟩, .string ⟨#[]⟩, .slice none 0 0, .string ⟨#[]⟩, .int .i64 0, .int .i64 0, .string ⟨#[]⟩, .int .i64 0, .int .i64 0, .int .i64 0] 45)).heap.size (((w.alloc (.cells #[.string (zW g.name), .slice a1 g.A.length c1, .slice a2 g.E.length c2, .slice a3 g.ins.length c3, .slice a4 g.outs.length c4] 31)).alloc (.cells #[.int .i64 ef, .int .i64 efp, .int .i64 et, .int .i64 etp, .slice x zs.length c] 64)).alloc (.cells #[.int .u8 0, .string ⟨#[]⟩, .string ⟨#[]⟩, .slice none 0 0, .string ⟨#[]⟩, .int .i64 0, .int .i64 0, .string ⟨#[]⟩, .int .i64 0, .int .i64 0, .int .i64 0] 45)) V -> Calls Try.prog 58 #[.agg #[.string (zW g.name), .slice a1 g.A.length c1, .slice a2 g.E.length c2, .slice a3 g.ins.length c3, .slice a4 g.outs.length c4], .int .i64 et, .int .i64 etp] V fun e w' => e = .returned (.agg #[.string (zW (zI g.A et.toNat).name), .int .i64 etp, .int .i64 0]) /\ Below V.heap.size V w') := fun V hb => vG g a1 a2 a3 a4 c1 c2 c3 c4 et etp V (AA.out.below hb) t0 t1 hn
 have CO : Hid (∀ V, Below (((w.alloc (.cells #[.string (zW g.name), .slice a1 g.A.length c1, .slice a2 g.E.length c2, .slice a3 g.ins.length c3, .slice a4 g.outs.length c4] 31)).alloc (.cells #[.int .i64 ef, .int .i64 efp, .int .i64 et, .int .i64 etp, .slice x zs.length c] 64)).alloc (.cells #[.int .u8 0, .string ⟨#[]⟩, .string ⟨#[]⟩, .slice none 0 0, .string ⟨#[]⟩, .int .i64 0, .int .i64 0, .string ⟨#[]⟩, .int .i64 0, .int .i64 0, .int .i64 0] 45)).heap.size (((w.alloc (.cells #[.string (zW g.name), .slice a1 g.A.length c1, .slice a2 g.E.length c2, .slice a3 g.ins.length c3, .slice a4 g.outs.length c4] 31)).alloc (.cells #[.int .i64 ef, .int .i64 efp, .int .i64 et, .int .i64 etp, .slice x zs.length c] 64)).alloc (.cells #[.int .u8 0, .string ⟨#[]⟩, .string ⟨#[]⟩, .slice none 0 0, .string ⟨#[]⟩, .int .i64 0, .int .i64 0, .string ⟨#[]⟩, .int .i64 0, .int .i64 0, .int .i64 0] 45)) V -> Calls Try.prog 44 #[.slice x zs.length c] V (uE V zs.length zs)) := fun V hb => sS x zs zs.length c V (HA.out.below hb)
 clear ba gg ge nr h hA t0 t1 f0 f1 hn AA HA
 go_enter Try.func57, Try.ntmps57
 go_upto_region 1 with fail
 generalize ((w.alloc (.cells #[.string (zW g.name), .slice a1 g.A.length c1, .slice a2 g.E.length c2, .slice a3 g.ins.length c3, .slice a4 g.outs.length c4] 31)).alloc (.cells #[.int .i64 ef, .int .i64 efp, .int .i64 et, .int .i64 etp, .slice x zs.length c] 64)).alloc (.cells #[.int .u8 0, .string ⟨#[]⟩, .string ⟨#[]⟩, .slice none 0 0, .string ⟨#[]⟩, .int .i64 0, .int .i64 0, .string ⟨#[]⟩, .int .i64 0, .int .i64 0, .int .i64 0] 45) = W0 at *
 refine zP 16 (fun i u v => match i with
  | 0 => v = .agg #[.string (zW g.name), .slice a1 g.A.length c1, .slice a2 g.E.length c2, .slice a3 g.ins.length c3, .slice a4 g.outs.length c4]
  | 1 => v = .pointer (some ⟨w.heap.size + 1, 0, none⟩)
  | 2 => v = .int .i64 ef
  | 3 => v = .pointer (some ⟨w.heap.size + 1, 1, none⟩)
  | 4 => v = .int .i64 efp
  | 5 => v = .agg #[.string (zW (zI g.A ef.toNat).name), .int .i64 efp, .int .i64 0]
  | 6 => v = .agg #[.string (zW g.name), .slice a1 g.A.length c1, .slice a2 g.E.length c2, .slice a3 g.ins.length c3, .slice a4 g.outs.length c4]
  | 7 => v = .pointer (some ⟨w.heap.size + 1, 2, none⟩)
  | 8 => v = .int .i64 et
  | 9 => v = .pointer (some ⟨w.heap.size + 1, 3, none⟩)
  | 10 => v = .int .i64 etp
  | 11 => v = .agg #[.string (zW (zI g.A et.toNat).name), .int .i64 etp, .int .i64 0]
  | 12 => v = .pointer (some ⟨w.heap.size + 1, 4, none⟩)
  | 13 => v = .slice x zs.length c
  | 14 => uG W0 zs u v
  | 15 => ∃ q, v = .agg #[.int .u8 2, .string ⟨#[]⟩, .string ⟨#[]⟩, q, .string (zW (zI g.A ef.toNat).name), .int .i64 efp, .int .i64 0, .string (zW (zI g.A et.toNat).name), .int .i64 etp, .int .i64 0, .int .i64 0] /\ uG W0 zs u q
  | _ => True) (by kernel_rfl) (by kernel_rfl) (by kernel_rfl) (by kernel_rfl) ?_ ?_ ?_
 ·intro i w v w' h hb
  match i, h with
  | 0, h => exact h
  | 1, h => exact h
  | 2, h => exact h
  | 3, h => exact h
  | 4, h => exact h
  | 5, h => exact h
  | 6, h => exact h
  | 7, h => exact h
  | 8, h => exact h
  | 9, h => exact h
  | 10, h => exact h
  | 11, h => exact h
  | 12, h => exact h
  | 13, h => exact h
  | 14, h => exact uG.later h hb
  | 15, h => obtain ⟨q, h1, h2⟩ := h; exact ⟨q, h1, h2.later hb⟩
  | _ + 16, _ => trivial
 ·intro i o ρ w' hi ho hb hc hf hfr zY
  have k0 := zX hb y0
  have k1 := zX hb y1
  have k2 := zX hb y2
  have k3 := zX hb y3
  have k4 := zX hb y4
  have m0 := zX hb z0
  have m1 := zX hb z1
  have m2 := zX hb z2
  have m3 := zX hb z3
  have m4 := zX hb z4
  match i, hi with
  | 0, _ =>
   simp only [qS] at ho
   subst ho
   have ts : ρ (.tmp 2) = .pointer (some ⟨w.heap.size, 0, none⟩) := hfr 2 (by kernel_rfl)
   simp [go_sem, ts, k0, k1, k2, k3, k4]
   exact qB
  | 1, _ =>
   simp only [qS] at ho
   subst ho
   have ts : ρ (.tmp 3) = .pointer (some ⟨w.heap.size + 1, 0, none⟩) := hfr 3 (by kernel_rfl)
   simp [go_sem, ts]
   exact qB
  | 2, _ =>
   simp only [qS] at ho
   subst ho
   have ts : ρ (.tmp 6) = .pointer (some ⟨w.heap.size + 1, 0, none⟩) := zY 1 6 (by kernel_rfl) (by kernel_rfl)
   simp [go_sem, ts, m0]
   exact qB
  | 3, _ =>
   simp only [qS] at ho
   subst ho
   have ts : ρ (.tmp 3) = .pointer (some ⟨w.heap.size + 1, 0, none⟩) := hfr 3 (by kernel_rfl)
   simp [go_sem, ts]
   exact qB
  | 4, _ =>
   simp only [qS] at ho
   subst ho
   have ts : ρ (.tmp 8) = .pointer (some ⟨w.heap.size + 1, 1, none⟩) := zY 3 8 (by kernel_rfl) (by kernel_rfl)
   simp [go_sem, ts, m1]
   exact qB
  | 5, _ =>
   simp only [qS] at ho
   subst ho
   have t0 : ρ (.tmp 5) = .agg #[.string (zW g.name), .slice a1 g.A.length c1, .slice a2 g.E.length c2, .slice a3 g.ins.length c3, .slice a4 g.outs.length c4] := zY 0 5 (by kernel_rfl) (by kernel_rfl)
   have t1 : ρ (.tmp 7) = .int .i64 ef := zY 2 7 (by kernel_rfl) (by kernel_rfl)
   have t2 : ρ (.tmp 9) = .int .i64 efp := zY 4 9 (by kernel_rfl) (by kernel_rfl)
   simp [go_sem, t0, t1, t2, hf]
   exact ⟨rfl, (Pef.out w' hb).mono fun e w'' hh => ⟨_, hh.1, hh.2, rfl⟩⟩
  | 6, _ =>
   simp only [qS] at ho
   subst ho
   have ts : ρ (.tmp 2) = .pointer (some ⟨w.heap.size, 0, none⟩) := hfr 2 (by kernel_rfl)
   simp [go_sem, ts, k0, k1, k2, k3, k4]
   exact qB
  | 7, _ =>
   simp only [qS] at ho
   subst ho
   have ts : ρ (.tmp 3) = .pointer (some ⟨w.heap.size + 1, 0, none⟩) := hfr 3 (by kernel_rfl)
   simp [go_sem, ts]
   exact qB
  | 8, _ =>
   simp only [qS] at ho
   subst ho
   have ts : ρ (.tmp 12) = .pointer (some ⟨w.heap.size + 1, 2, none⟩) := zY 7 12 (by kernel_rfl) (by kernel_rfl)
   simp [go_sem, ts, m2]
   exact qB
  | 9, _ =>
   simp only [qS] at ho
   subst ho
   have ts : ρ (.tmp 3) = .pointer (some ⟨w.heap.size + 1, 0, none⟩) := hfr 3 (by kernel_rfl)
   simp [go_sem, ts]
   exact qB
  | 10, _ =>
   simp only [qS] at ho
   subst ho
   have ts : ρ (.tmp 14) = .pointer (some ⟨w.heap.size + 1, 3, none⟩) := zY 9 14 (by kernel_rfl) (by kernel_rfl)
   simp [go_sem, ts, m3]
   exact qB
  | 11, _ =>
   simp only [qS] at ho
   subst ho
   have t0 : ρ (.tmp 11) = .agg #[.string (zW g.name), .slice a1 g.A.length c1, .slice a2 g.E.length c2, .slice a3 g.ins.length c3, .slice a4 g.outs.length c4] := zY 6 11 (by kernel_rfl) (by kernel_rfl)
   have t1 : ρ (.tmp 13) = .int .i64 et := zY 8 13 (by kernel_rfl) (by kernel_rfl)
   have t2 : ρ (.tmp 15) = .int .i64 etp := zY 10 15 (by kernel_rfl) (by kernel_rfl)
   simp [go_sem, t0, t1, t2, hf]
   exact ⟨rfl, (Pet.out w' hb).mono fun e w'' hh => ⟨_, hh.1, hh.2, rfl⟩⟩
  | 12, _ =>
   simp only [qS] at ho
   subst ho
   have ts : ρ (.tmp 3) = .pointer (some ⟨w.heap.size + 1, 0, none⟩) := hfr 3 (by kernel_rfl)
   simp [go_sem, ts]
   exact qB
  | 13, _ =>
   simp only [qS] at ho
   subst ho
   have ts : ρ (.tmp 17) = .pointer (some ⟨w.heap.size + 1, 4, none⟩) := zY 12 17 (by kernel_rfl) (by kernel_rfl)
   simp [go_sem, ts, m4]
   exact qB
  | 14, _ =>
   simp only [qS] at ho
   subst ho
   have ts : ρ (.tmp 18) = .slice x zs.length c := zY 13 18 (by kernel_rfl) (by kernel_rfl)
   simp [go_sem, ts, hf]
   exact ⟨rfl, (CO.out w' hb).mono fun e w'' hh => nL hh hb.size⟩
  | 15, _ =>
   simp only [qS] at ho
   subst ho
   obtain ⟨qa, qc, e5, h5⟩ : uG W0 zs w' (ρ (.tmp 19)) := zY 14 19 (by kernel_rfl) (by kernel_rfl)
   have t1 : ρ (.tmp 10) = .agg #[.string (zW (zI g.A ef.toNat).name), .int .i64 efp, .int .i64 0] := zY 5 10 (by kernel_rfl) (by kernel_rfl)
   have t2 : ρ (.tmp 16) = .agg #[.string (zW (zI g.A et.toNat).name), .int .i64 etp, .int .i64 0] := zY 11 16 (by kernel_rfl) (by kernel_rfl)
   simp [go_sem, e5, t1, t2, hc]
   exact ⟨Below.refl _ _, _, rfl, qa, qc, rfl, h5⟩
  | k + 16, h => exact absurd h (by omega)
 intro V w9 q9 hS
 have e0 : V 0 = .agg #[.string (zW g.name), .slice a1 g.A.length c1, .slice a2 g.E.length c2, .slice a3 g.ins.length c3, .slice a4 g.outs.length c4] := hS 0 (by decide)
 have e1 : V 1 = .pointer (some ⟨w.heap.size + 1, 0, none⟩) := hS 1 (by decide)
 have e2 : V 2 = .int .i64 ef := hS 2 (by decide)
 have e3 : V 3 = .pointer (some ⟨w.heap.size + 1, 1, none⟩) := hS 3 (by decide)
 have e4 : V 4 = .int .i64 efp := hS 4 (by decide)
 have e5 : V 5 = .agg #[.string (zW (zI g.A ef.toNat).name), .int .i64 efp, .int .i64 0] := hS 5 (by decide)
 have e6 : V 6 = .agg #[.string (zW g.name), .slice a1 g.A.length c1, .slice a2 g.E.length c2, .slice a3 g.ins.length c3, .slice a4 g.outs.length c4] := hS 6 (by decide)
 have e7 : V 7 = .pointer (some ⟨w.heap.size + 1, 2, none⟩) := hS 7 (by decide)
 have e8 : V 8 = .int .i64 et := hS 8 (by decide)
 have e9 : V 9 = .pointer (some ⟨w.heap.size + 1, 3, none⟩) := hS 9 (by decide)
 have e10 : V 10 = .int .i64 etp := hS 10 (by decide)
 have e11 : V 11 = .agg #[.string (zW (zI g.A et.toNat).name), .int .i64 etp, .int .i64 0] := hS 11 (by decide)
 have e12 : V 12 = .pointer (some ⟨w.heap.size + 1, 4, none⟩) := hS 12 (by decide)
 have e13 : V 13 = .slice x zs.length c := hS 13 (by decide)
 obtain ⟨qa5, qc5, e14, -⟩ : uG W0 zs w9 (V 14) := hS 14 (by decide)
 obtain ⟨_, e15, qa, qc, rfl, M6⟩ : ∃ q, V 15 = .agg #[.int .u8 2, .string ⟨#[]⟩, .string ⟨#[]⟩, q, .string (zW (zI g.A ef.toNat).name), .int .i64 efp, .int .i64 0, .string (zW (zI g.A et.toNat).name), .int .i64 etp, .int .i64 0, .int .i64 0] /\ uG W0 zs w9 q := hS 15 (by decide)
 simp only [List.drop_succ_cons, List.drop_zero, List.take_succ_cons, List.take_zero, yL, e0, e1, e2, e3, e4, e5, e6, e7, e8, e9, e10, e11, e12, e13, e14, e15]
 clear hS e0 e1 e2 e3 e4 e5 e6 e7 e8 e9 e10 e11 e12 e13 e14 e15 V
 simp only [Act.put, qU]
 have NR9 := zZ (NR.out.below q9)
 have M9 := zZ M6
 have B9 := zZ (BA.out.trans (q9.mono BA.out.size))
 have SW2 : Hid (w.heap.size + 2 < W0.heap.size) := NR.out.lt
 clear M6 q9
 go_wp2_with (refine zM _ rfl 45 (.tmp 4) (.tmp 20) rfl rfl (w.heap.size + 2) 45 _ _ rfl rfl NR9.out sizI rfl rfl ?_; intro w8 hN hU; have N8 := zZ hN; have U8 := zZ hU; clear hN hU)
 have r0 : w8.cell? ⟨w.heap.size + 2, 0, none⟩ = some (.int .u8 2) := N8.out.cell rfl
 have r1 : w8.cell? ⟨w.heap.size + 2, 1, none⟩ = some (.string ⟨#[]⟩) := N8.out.cell rfl
 have r2 : w8.cell? ⟨w.heap.size + 2, 2, none⟩ = some (.string ⟨#[]⟩) := N8.out.cell rfl
 have r3 : w8.cell? ⟨w.heap.size + 2, 3, none⟩ = some (.slice qa zs.length qc) := N8.out.cell rfl
 have r4 : w8.cell? ⟨w.heap.size + 2, 4, none⟩ = some (.string (zW (zI g.A ef.toNat).name)) := N8.out.cell rfl
 have r5 : w8.cell? ⟨w.heap.size + 2, 5, none⟩ = some (.int .i64 efp) := N8.out.cell rfl
 have r6 : w8.cell? ⟨w.heap.size + 2, 6, none⟩ = some (.int .i64 0) := N8.out.cell rfl
 have r7 : w8.cell? ⟨w.heap.size + 2, 7, none⟩ = some (.string (zW (zI g.A et.toNat).name)) := N8.out.cell rfl
 have r8 : w8.cell? ⟨w.heap.size + 2, 8, none⟩ = some (.int .i64 etp) := N8.out.cell rfl
 have r9 : w8.cell? ⟨w.heap.size + 2, 9, none⟩ = some (.int .i64 0) := N8.out.cell rfl
 have r10 : w8.cell? ⟨w.heap.size + 2, 10, none⟩ = some (.int .i64 0) := N8.out.cell rfl
 refine bodyPost_ret (v := .agg #[.int .u8 2, .string ⟨#[]⟩, .string ⟨#[]⟩, .slice qa zs.length qc, .string (zW (zI g.A ef.toNat).name), .int .i64 efp, .int .i64 0, .string (zW (zI g.A et.toNat).name), .int .i64 etp, .int .i64 0, .int .i64 0]) (by simp [results, Try.results57, go_sem, r0, r1, r2, r3, r4, r5, r6, r7, r8, r9, r10]) rfl ?_
 refine ⟨qa, qc, rfl, ?_, B9.out.trans (U8.out.below (Nat.le_trans (Nat.le_succ _) (Nat.le_succ _)) B9.out.size)⟩
 have m := M9.out.mono (Nat.le_trans (Nat.le_trans (Nat.le_succ _) (Nat.le_succ _)) (Nat.le_of_lt SW2.out))
 refine yS.keep (w := w9) m fun y hy => U8.out.block _ (m.lt y hy).2 (fun e => ?_)
 exact absurd (Nat.lt_of_lt_of_le SW2.out (M9.out.lt y hy).1) (by rw [e]; exact Nat.lt_irrefl _)
theorem Try.infoIT : (Try.prog.info? 45).map (fun i => (i.zero, i.size, i.bytes)) = some (some (.agg #[.int .u8 0, .string ⟨#[]⟩, .string ⟨#[]⟩, .slice none 0 0, .string ⟨#[]⟩, .int .i64 0, .int .i64 0, .string ⟨#[]⟩, .int .i64 0, .int .i64 0, .int .i64 0]), 11, 136) := by kernel_rfl
theorem rH (x : yO) (a : Option Addr) (n c : Nat) : ∀ u ∈ tL (x, .slice a n c), u.oneCell' = true := by
 intro u hu
 simp only [tL, ZR, List.mem_cons, List.not_mem_nil, or_false] at hu
 rcases hu with rfl | rfl | rfl | rfl | rfl | rfl | rfl | rfl | rfl | rfl | rfl <;> rfl
def kC (V : World) (x : yO) (u : World) (v : Value) : Prop := ∃ a c, v = .agg (ZR x.kind x.name x.tag (.slice a x.nums.length c) x.frm x.tgt x.place) /\ yS V.heap.size u a c x.nums
def fS (V : World) (x : yO) (u : World) (v : Value) : Prop := ∃ h a c, v = .slice (some ⟨h, 0, none⟩) 1 1 /\ (∀ k y, (tL (x, .slice a x.nums.length c))[k]? = some y -> u.cell? ⟨h, k, none⟩ = some y) /\ yS V.heap.size u a c x.nums
theorem kC.later {V u u' : World} {x : yO} {v : Value} (h : kC V x u v) (hb : Below u.heap.size u u') : kC V x u' v := by
 obtain ⟨a, c, h1, h2⟩ := h
 exact ⟨a, c, h1, h2.later hb⟩
theorem fS.later {V u u' : World} {x : yO} {v : Value} (h : fS V x u v) (hb : Below u.heap.size u u') : fS V x u' v := by
 obtain ⟨g, a, c, h1, h2, h3⟩ := h
 exact ⟨g, a, c, h1, fun k y hy => zX hb (h2 k y hy), h3.later hb⟩
theorem ZQ {V w w' : World} {x : yO} {e : Ending} (h : lZ x w e w') (hV : V.heap.size <= w.heap.size) : ∃ v, e = .returned v /\ Below w.heap.size w w' /\ kC V x w' v := by
 obtain ⟨a, c, h1, h2, h3⟩ := h
 exact ⟨_, h1, h3, a, c, rfl, h2.mono hV⟩
theorem nK {V u : World} {x : yO} {a : Option Addr} {c : Nat} (h : yS V.heap.size u a c x.nums) (T : TypeId) : fS V x (u.alloc (.cells (ZR x.kind x.name x.tag (.slice a x.nums.length c) x.frm x.tgt x.place) T)) (.slice (some ⟨u.heap.size, 0, none⟩) 1 1) :=
 ⟨u.heap.size, a, c, rfl, fun k y hy => (zU T u _).cell (by rw [<- Array.getElem?_toList]; exact hy), h.later ((Below.refl _ _).alloc (Nat.le_refl _) _)⟩
structure ZP (w : World) (K : Nat) (g : GG) (a1 a2 a3 a4 : Option Addr) (c1 c2 c3 c4 : Nat) (v : Value) (M : List (yO × Value)) (wr : World) : Prop where
 gb : zN 31 w.heap.size wr #[.string (zW g.name), .slice a1 g.A.length c1, .slice a2 g.E.length c2, .slice a3 g.ins.length c3, .slice a4 g.outs.length c4]
 rb : zN 24 (w.heap.size + 1) wr #[.string ⟨#[]⟩, .slice none 0 0]
 sb : zN 24 K wr #[.string (zW g.name), v]
 its : rA (K + 1) wr v M
 bel : Below w.heap.size w wr
 hk : w.heap.size + 1 < K
 big : K + 1 <= wr.heap.size
theorem ZP.below {w K g a1 a2 a3 a4 c1 c2 c3 c4 v M} {wr w2 : World} (h : ZP w K g a1 a2 a3 a4 c1 c2 c3 c4 v M wr) (hb : Below wr.heap.size wr w2) : ZP w K g a1 a2 a3 a4 c1 c2 c3 c4 v M w2 :=
 ⟨h.gb.below hb, h.rb.below hb, h.sb.below hb, h.its.below hb, h.bel.trans (hb.mono h.bel.size), h.hk, Nat.le_trans h.big hb.size⟩
theorem ZP.put {w K g a1 a2 a3 a4 c1 c2 c3 c4 v M} {V : World} (h : ZP w K g a1 a2 a3 a4 c1 c2 c3 c4 v M V) {w2 w4 : World} {x : yO} {q v' : Value} (hb : Below V.heap.size V w2) (hq : yC V.heap.size w2 q x.nums)
 (ho : w4.ownsRow (K + 1) 45 11 v' (M.length + 1) (M.flatMap tL ++ tL (x, q)))
 (ht : (∃ g cap, v = .slice (some ⟨g, 0, none⟩) M.length cap /\ v' = .slice (some ⟨g, 0, none⟩) (M.length + 1) cap /\ w2.grownBy w4 (some g)) \/ (∃ cap, v' = .slice (some ⟨w2.heap.size, 0, none⟩) (M.length + 1) cap /\ w2.grownBy w4 none)) :
 ZP w K g a1 a2 a3 a4 c1 c2 c3 c4 v' (M ++ [(x, q)]) (w4.setCell ⟨K, 1, none⟩ v') /\ zN 24 K w4 #[.string (zW g.name), v] := by
 have hbig := h.big
 have hkk := h.hk
 have hsz := hb.size
 have i1 := h.its.below hb
 have i2 := i1.app hq (fun k hk => by
  rcases hk with hk | ⟨p, hp, hk⟩
  ·have := zR h.its.row k hk; omega
  have := zR (h.its.nums p hp) k hk; omega) (by omega) ho ht
 have hg : ∃ row, w2.grownBy w4 row /\ ∀ k, row = some k -> K + 1 <= k := by
  rcases ht with ⟨g, cap, e, -, hg⟩ | ⟨cap, -, hg⟩
  ·refine ⟨_, hg, fun k hk => ?_⟩
   cases hk
   exact zT h.its.row g (by rw [e]; rfl)
  exact ⟨_, hg, fun k hk => by cases hk⟩
 obtain ⟨row, hg, hrow⟩ := hg
 have kp : ∀ d, d < K + 1 -> w4.heap[d]? = V.heap[d]? := fun d hd => (hg.block d (by omega) (fun e => by have := hrow d e.symm; omega)).trans (hb.block d (by omega))
 have b3 := h.sb.keep (kp K (by omega))
 have set : ∀ k, k ≠ K -> (w4.setCell ⟨K, 1, none⟩ v').heap[k]? = w4.heap[k]? := fun k hk => Below.heap_setCell w4 ⟨K, 1, none⟩ v' k hk
 refine ⟨⟨h.gb.keep ((set _ (by omega)).trans (kp _ (by omega))), h.rb.keep ((set _ (by omega)).trans (kp _ (by omega))), b3.set 1 v', i2.put (by omega), ?_, h.hk, ?_⟩, b3⟩
 ·have h1 : Below w.heap.size w w2 := h.bel.trans (hb.mono h.bel.size)
  exact (zH h1 hg (fun k hk => by have := hrow k hk; omega) h1.size).setCell (p := ⟨K, 1, none⟩) (by show w.heap.size <= K; omega) _
 have := hg.size
 rw [World.size_setCell]
 omega
theorem yG {v v' : Value} {n : Nat} {w2 w4 : World} (ht : (∃ g cap, v = .slice (some ⟨g, 0, none⟩) n cap /\ v' = .slice (some ⟨g, 0, none⟩) (n + 1) cap /\ w2.grownBy w4 (some g)) \/ (∃ cap, v' = .slice (some ⟨w2.heap.size, 0, none⟩) (n + 1) cap /\ w2.grownBy w4 none)) : ∃ a c, v' = .slice a (n + 1) c := by
 rcases ht with ⟨g, cap, -, e, -⟩ | ⟨cap, e, -⟩ <;> exact ⟨_, _, e⟩
def tX (g : GG) (w : World) (e : Ending) (w' : World) : Prop :=
 if (yZ g).code = 0 then ∃ a c M, e = .returned (.tuple #[.agg #[.string (zW g.name), .slice a M.length c], .int .i64 0]) /\ M.map Prod.fst = tK g /\ rA w.heap.size w' (.slice a M.length c) M /\ Below w.heap.size w w'
 else e = .returned (.tuple #[.agg #[.string ⟨#[]⟩, .slice none 0 0], .int .i64 (yZ g).code]) /\ Below w.heap.size w w'
theorem WC {w w' v L} {I K : Nat} (h : rA (K + 1) w v L) (hU : vA I w w') (hI : I < K) : rA (K + 1) w' v L := by
 have kp : ∀ k, K + 1 <= k -> k < w.heap.size -> w'.heap[k]? = w.heap[k]? := fun k h1 h2 => hU.block k h2 (by omega)
 exact ⟨zV h.row fun k e => kp k (zT h.row k e) (zR h.row k e), fun p hp => zV (h.nums p hp) fun k e => kp k (zT (h.nums p hp) k e) (zR (h.nums p hp) k e), h.off, h.pair⟩
theorem ZO (g : GG) (a1 a2 a3 a4 : Option Addr) (c1 c2 c3 c4 : Nat) (w : World) (h : sH w a1 a2 a3 a4 g) :
 Calls Try.prog 26 #[.agg #[.string (zW g.name), .slice a1 g.A.length c1, .slice a2 g.E.length c2, .slice a3 g.ins.length c3, .slice a4 g.outs.length c4]] w (tX g w) := by
 have ba := ((Below.refl w.heap.size w).alloc (Nat.le_refl _) (.cells #[.string (zW g.name), .slice a1 g.A.length c1, .slice a2 g.E.length c2, .slice a3 g.ins.length c3, .slice a4 g.outs.length c4] 31)).alloc (by simp) (.cells #[.string ⟨#[]⟩, .slice none 0 0] 24)
 have gg := (zU 31 w #[.string (zW g.name), .slice a1 g.A.length c1, .slice a2 g.E.length c2, .slice a3 g.ins.length c3, .slice a4 g.outs.length c4]).below ((Below.refl _ _).alloc (Nat.le_refl _) (.cells #[.string ⟨#[]⟩, .slice none 0 0] 24))
 have nr : zN 24 (w.heap.size + 1) ((w.alloc (.cells #[.string (zW g.name), .slice a1 g.A.length c1, .slice a2 g.E.length c2, .slice a3 g.ins.length c3, .slice a4 g.outs.length c4] 31)).alloc (.cells #[.string ⟨#[]⟩, .slice none 0 0] 24)) #[.string ⟨#[]⟩, .slice none 0 0] := by
  have h3 := zU 24 (w.alloc (.cells #[.string (zW g.name), .slice a1 g.A.length c1, .slice a2 g.E.length c2, .slice a3 g.ins.length c3, .slice a4 g.outs.length c4] 31)) #[.string ⟨#[]⟩, .slice none 0 0]
  rw [World.size_alloc] at h3
  exact h3
 have BA := zZ ba
 have GB := zZ gg
 have NR := zZ nr
 have HG := zZ h
 have CK := zZ (kD g a1 a2 a3 a4 c1 c2 c3 c4 _ (h.below ba))
 have y0 := gg.cell (k := 0) rfl
 have y1 := gg.cell (k := 1) rfl
 have y2 := gg.cell (k := 2) rfl
 have y3 := gg.cell (k := 3) rfl
 have y4 := gg.cell (k := 4) rfl
 have HE : Hid (tX g w = tX g w) := zZ rfl
 by_cases h0 : (yZ g).code = 0
 ·have HS := zZ ((uR g).1 h0)
  have HO := rJ HS.out.head
  have H1 : Hid (∀ e w', (∃ a c M, e = .returned (.tuple #[.agg #[.string (zW g.name), .slice a M.length c], .int .i64 0]) /\ M.map Prod.fst = tK g /\ rA w.heap.size w' (.slice a M.length c) M /\ Below w.heap.size w w') -> tX g w e w') := fun e w' q => by
   unfold tX
   rw [if_pos h0]
   exact q
  rw [h0] at CK
  obtain ⟨i0, hi, hz0, hz1, hz2⟩ := info_parts Try.infoIT
  have HJ := zZ hi
  have HJ0 := zZ hz0
  have HJ1 := zZ hz1
  have HJ2 := zZ hz2
  clear ba gg nr h h0 HE hi hz0 hz1 hz2
  have n1 : (g.A.length : Int) <= 32 := by omega
  have n2 : (g.E.length : Int) <= 96 := by omega
  have n3 : (g.ins.length : Int) <= 16 := by omega
  have n4 : (g.outs.length : Int) <= 16 := by omega
  have HLM : Hid (g.A.length <= 32 /\ g.E.length <= 96 /\ g.ins.length <= 16 /\ g.outs.length <= 16) := ⟨HO.2.2.1, HO.2.2.2.1, HO.2.2.2.2.1, HO.2.2.2.2.2⟩
  clear HO
  go_enter Try.func26, Try.ntmps26
  go_upto_region 1 with fail
  generalize (w.alloc (.cells #[.string (zW g.name), .slice a1 g.A.length c1, .slice a2 g.E.length c2, .slice a3 g.ins.length c3, .slice a4 g.outs.length c4] 31)).alloc (.cells #[.string ⟨#[]⟩, .slice none 0 0] 24) = W0 at *
  go_upto_region 4 with (go_at_call 27; (with_reducible refine CK.out.mono ?_); rintro e w1 ⟨rfl, b1⟩; have B1 := zZ b1; clear b1 y0 y1 y2 y3 y4)
  have G1 := zZ (GB.out.below B1.out)
  have y0 : w1.cell? ⟨w.heap.size, 0, none⟩ = some (.string (zW g.name)) := G1.out.cell rfl
  go_upto_region 5 with fail
  have D0 : Hid (ZP w w1.heap.size g a1 a2 a3 a4 c1 c2 c3 c4 (.slice none 0 0) [] (w1.alloc (.cells #[.string (zW g.name), .slice none 0 0] 24))) := by
   have bw := (Below.refl w1.heap.size w1).alloc (Nat.le_refl _) (.cells #[.string (zW g.name), .slice none 0 0] 24)
   have b2 := BA.out.trans (B1.out.mono BA.out.size)
   have rb := NR.out.below B1.out
   exact ⟨G1.out.below bw, rb.below bw, zU 24 w1 _, dP _ _, b2.trans (bw.mono b2.size), rb.lt, by rw [World.size_alloc]; exact Nat.le_refl _⟩
  generalize w1.alloc (.cells #[.string (zW g.name), .slice none 0 0] 24) = W1 at *
  generalize w1.heap.size = K at *
  clear y0 G1 B1 NR GB BA CK
  have y1 : W1.cell? ⟨w.heap.size, 1, none⟩ = some (.slice a1 g.A.length c1) := D0.out.gb.cell rfl
  go_wp2
  go_loopg [26] g.A.length (fun gk v wr => ∃ (k : Nat) (va : Option Addr) (vc : Nat) (M : List (yO × Value)), k <= g.A.length /\ gk = g.A.length - k /\ v = .int .i64 (k : Int) /\ M.map Prod.fst = [] ++ (g.A.take k).map wS /\ ZP w K g a1 a2 a3 a4 c1 c2 c3 c4 (.slice va M.length vc) M wr)
  case atStart => exact ⟨0, none, 0, [], Nat.zero_le _, rfl, rfl, rfl, D0.out⟩
  case round =>
   obtain ⟨k, va, vc, M, hk, rfl, rfl, hM, hD⟩ := hrel
   have DD := zZ hD
   have MM := zZ hM
   clear hM hD
   have LM : M.length <= 160 := by
    have q := congrArg List.length MM.out
    have := HLM.out
    simp only [List.length_map, List.length_append, List.length_take, List.length_nil] at q
    omega
   by_cases hlt : k < g.A.length
   ·have hki : (k : Int) < (g.A.length : Int) := by omega
    rcases (HG.out.below (DD.out.bel.mono (Nat.le_refl _))).A with e | ⟨b, off, rfl, hc⟩
    ·rw [e] at hlt; exact absurd hlt (Nat.not_lt_zero _)
    obtain ⟨k0, k1, k2, x, c, k3, k4⟩ := hc k hlt
    have HAR := zZ k4
    have HTG := zZ k2
    have TK := zZ (fD hlt)
    generalize zI g.A k = E at *
    obtain ⟨nm, tg, ps⟩ := E
    simp only at k0 k1 k3 HAR HTG
    clear hc k2 k4
    go_upto_region 8 with fail
    have bv := (Below.refl wr.heap.size wr).alloc (Nat.le_refl _) (.cells #[.string (zW nm), .int .u8 (tg : Int), .slice x ps.length c] 61)
    have DV := zZ (DD.out.below bv)
    have bx := zU 61 wr #[.string (zW nm), .int .u8 (tg : Int), .slice x ps.length c]
    have bb0 := bx.cell (k := 0) rfl
    have bb1 := bx.cell (k := 1) rfl
    have bb2 := bx.cell (k := 2) rfl
    have kk : (wr.alloc (.cells #[.string (zW nm), .int .u8 (tg : Int), .slice x ps.length c] 61)).cell? ⟨K, 1, none⟩ = some (.slice va M.length vc) := DV.out.sb.cell rfl
    have gx0 : (wr.alloc (.cells #[.string (zW nm), .int .u8 (tg : Int), .slice x ps.length c] 61)).cell? ⟨w.heap.size, 0, none⟩ = some (.string (zW g.name)) := DV.out.gb.cell rfl
    have gx1 : (wr.alloc (.cells #[.string (zW nm), .int .u8 (tg : Int), .slice x ps.length c] 61)).cell? ⟨w.heap.size, 1, none⟩ = some (.slice (some ⟨b, off, none⟩) g.A.length c1) := DV.out.gb.cell rfl
    have gx2 : (wr.alloc (.cells #[.string (zW nm), .int .u8 (tg : Int), .slice x ps.length c] 61)).cell? ⟨w.heap.size, 2, none⟩ = some (.slice a2 g.E.length c2) := DV.out.gb.cell rfl
    have gx3 : (wr.alloc (.cells #[.string (zW nm), .int .u8 (tg : Int), .slice x ps.length c] 61)).cell? ⟨w.heap.size, 3, none⟩ = some (.slice a3 g.ins.length c3) := DV.out.gb.cell rfl
    have gx4 : (wr.alloc (.cells #[.string (zW nm), .int .u8 (tg : Int), .slice x ps.length c] 61)).cell? ⟨w.heap.size, 4, none⟩ = some (.slice a4 g.outs.length c4) := DV.out.gb.cell rfl
    have CA : Hid (∀ U, Below (wr.alloc (.cells #[.string (zW nm), .int .u8 (tg : Int), .slice x ps.length c] 61)).heap.size (wr.alloc (.cells #[.string (zW nm), .int .u8 (tg : Int), .slice x ps.length c] 61)) U -> Calls Try.prog 56 #[.agg #[.string (zW nm), .int .u8 (tg : Int), .slice x ps.length c]] U (lZ (wS ⟨nm, tg, ps⟩) U)) := fun U hb => kX ⟨nm, tg, ps⟩ x c U HTG.out ((HAR.out.below bv).below hb)
    clear bx k0 k1 k3
    have BV := zZ bv
    clear bv
    generalize wr.alloc (.cells #[.string (zW nm), .int .u8 (tg : Int), .slice x ps.length c] 61) = V at *
    refine zP 5 (fun i u v => match i with
     | 0 => v = .pointer (some ⟨K, 1, none⟩)
     | 1 => v = .slice va M.length vc
     | 2 => v = .agg #[.string (zW nm), .int .u8 (tg : Int), .slice x ps.length c]
     | 3 => kC V (wS ⟨nm, tg, ps⟩) u v
     | 4 => fS V (wS ⟨nm, tg, ps⟩) u v
     | _ => True) (by kernel_rfl) (by kernel_rfl) (by kernel_rfl) (by kernel_rfl) ?_ ?_ ?_
    ·intro i w v w' h hb
     match i, h with
     | 0, h => exact h
     | 1, h => exact h
     | 2, h => exact h
     | 3, h => exact kC.later h hb
     | 4, h => exact fS.later h hb
     | _ + 5, _ => trivial
    ·intro i o ρ w' hi ho hb hc hf hfr zY
     have kS := zX hb kk
     have b0 := zX hb bb0
     have b1 := zX hb bb1
     have b2 := zX hb bb2
     have g0 := zX hb gx0
     have g1 := zX hb gx1
     have g2 := zX hb gx2
     have g3 := zX hb gx3
     have g4 := zX hb gx4
     match i, hi with
     | 0, _ =>
      simp only [qS] at ho
      subst ho
      have ts : ρ (.tmp 5) = .pointer (some ⟨K, 0, none⟩) := hfr 5 (by kernel_rfl)
      simp [go_sem, ts]
      exact qB
     | 1, _ =>
      simp only [qS] at ho
      subst ho
      have ts : ρ (.tmp 30) = .pointer (some ⟨K, 1, none⟩) := zY 0 30 (by kernel_rfl) (by kernel_rfl)
      simp [go_sem, ts, kS]
      exact qB
     | 2, _ =>
      simp only [qS] at ho
      subst ho
      have ts : ρ (.tmp 7) = .pointer (some ⟨wr.heap.size, 0, none⟩) := hfr 7 (by kernel_rfl)
      simp [go_sem, ts, b0, b1, b2]
      exact qB
     | 3, _ =>
      simp only [qS] at ho
      subst ho
      have t0 : ρ (.tmp 32) = .agg #[.string (zW nm), .int .u8 (tg : Int), .slice x ps.length c] := zY 2 32 (by kernel_rfl) (by kernel_rfl)
      simp [go_sem, t0, hf]
      exact ⟨rfl, (CA.out w' hb).mono fun e w'' hh => ZQ hh hb.size⟩
     | 4, _ =>
      simp only [qS] at ho
      subst ho
      obtain ⟨qa, qc, e3, h3⟩ : kC V (wS ⟨nm, tg, ps⟩) w' (ρ (.tmp 33)) := zY 3 33 (by kernel_rfl) (by kernel_rfl)
      simp [go_sem, e3, ZR]
      exact ⟨(Below.refl _ _).alloc (Nat.le_refl _) _, nK h3 _⟩
    intro V9 w9 q9 hS
    have e0 : V9 0 = .pointer (some ⟨K, 1, none⟩) := hS 0 (by decide)
    have e1 : V9 1 = .slice va M.length vc := hS 1 (by decide)
    have e2 : V9 2 = .agg #[.string (zW nm), .int .u8 (tg : Int), .slice x ps.length c] := hS 2 (by decide)
    obtain ⟨qa3, qc3, e3, -⟩ : kC V (wS ⟨nm, tg, ps⟩) w9 (V9 3) := hS 3 (by decide)
    obtain ⟨hx, qa, qc, e4, Q1, Q2⟩ : fS V (wS ⟨nm, tg, ps⟩) w9 (V9 4) := hS 4 (by decide)
    simp only [List.drop_succ_cons, List.drop_zero, List.take_succ_cons, List.take_zero, yL, e0, e1, e2, e3, e4]
    clear hS e0 e1 e2 e3 e4 V9
    simp only [Act.put, qU]
    have D9 := zZ DV.out
    have B9 := zZ q9
    have C9 := zZ Q1
    have N9 := zZ Q2
    clear Q1 Q2 q9 DV CA bb0 bb1 bb2 gx0 gx1 gx2 gx3 gx4 kk
    go_wp2_with (at_builtin; refine zJ _ rfl (.tmp 31) (.tmp 34) 22 rfl (K + 1) 45 i0 (.agg #[.int .u8 0, .string ⟨#[]⟩, .string ⟨#[]⟩, .slice none 0 0, .string ⟨#[]⟩, .int .i64 0, .int .i64 0, .string ⟨#[]⟩, .int .i64 0, .int .i64 0, .int .i64 0]) 11 136 Try.underlying22 HJ.out HJ0.out HJ1.out HJ2.out rfl (by decide) (.slice va M.length vc) M.length (M.flatMap tL) rfl (zS D9.out.its.row B9.out) ⟨hx, 0, none⟩ 1 1 (by decide) (tL ((wS ⟨nm, tg, ps⟩), .slice qa (wS ⟨nm, tg, ps⟩).nums.length qc)) rfl rfl (fun j u hu => by rw [xC]; exact C9.out j u hu) (rH _ _ _ _) (by unfold maxLen; omega) (by omega) (Nat.le_trans D9.out.big B9.out.size) ?_; intro v' w4 ho ht; obtain ⟨D10, bk⟩ := D9.out.put B9.out (x := (wS ⟨nm, tg, ps⟩)) (q := .slice qa (wS ⟨nm, tg, ps⟩).nums.length qc) N9.out ho ht; obtain ⟨va4, vc4, rfl⟩ := yG ht; have E10 := zZ D10; have s1 : w4.cell? ⟨K, 1, none⟩ = some (.slice va M.length vc) := bk.cell rfl; have f1 := bk.frozen 1; clear ho ht D10 bk)
    go_roundg (g.A.length - (k + 1))
    case measure => omega
    case rel => exact ⟨k + 1, va4, vc4, M ++ [((wS ⟨nm, tg, ps⟩), .slice qa (wS ⟨nm, tg, ps⟩).nums.length qc)], by omega, rfl, by go_num, by rw [List.map_append, MM.out, TK.out, List.map_append, List.append_assoc]; rfl, by rw [List.length_append]; exact E10.out⟩
   have ek : k = g.A.length := by omega
   have MM0 : Hid (M.map Prod.fst = [] ++ g.A.map wS) := by
    have e := MM.out
    rw [ek, List.take_length] at e
    exact e
   have hki : ¬ (k : Int) < (g.A.length : Int) := by omega
   clear MM ek
   have y2 : wr.cell? ⟨w.heap.size, 2, none⟩ = some (.slice a2 g.E.length c2) := DD.out.gb.cell rfl
   go_wp2
   go_loopg [41] g.E.length (fun gk v wr => ∃ (k : Nat) (va : Option Addr) (vc : Nat) (M : List (yO × Value)), k <= g.E.length /\ gk = g.E.length - k /\ v = .int .i64 (k : Int) /\ M.map Prod.fst = g.A.map wS ++ (g.E.take k).map (vW g) /\ ZP w K g a1 a2 a3 a4 c1 c2 c3 c4 (.slice va M.length vc) M wr)
   case atStart => exact ⟨0, va, vc, M, Nat.zero_le _, rfl, rfl, by rw [List.take_zero, List.map_nil, List.append_nil]; exact MM0.out, DD.out⟩
   case round =>
    obtain ⟨k, va, vc, M, hk, rfl, rfl, hM, hD⟩ := hrel
    have DD := zZ hD
    have MM := zZ hM
    clear hM hD
    have LM : M.length <= 160 := by
     have q := congrArg List.length MM.out
     have := HLM.out
     simp only [List.length_map, List.length_append, List.length_take] at q
     omega
    by_cases hlt : k < g.E.length
    ·have hki : (k : Int) < (g.E.length : Int) := by omega
     rcases (HG.out.below (DD.out.bel.mono (Nat.le_refl _))).E with e | ⟨b, off, rfl, hc⟩
     ·rw [e] at hlt; exact absurd hlt (Nat.not_lt_zero _)
     obtain ⟨k0, k1, k2, k3, x, c, k4, k5⟩ := hc k hlt
     have HAR := zZ k5
     have HEK := zZ (dQ (HS.out.E k hlt)).1
     have TK := zZ (fC hlt)
     generalize yU g.E k = E at *
     obtain ⟨ef, efp, et, etp, zs⟩ := E
     simp only at k0 k1 k2 k3 k4 HAR
     clear hc k5
     go_upto_region 13 with fail
     have bv := (Below.refl wr.heap.size wr).alloc (Nat.le_refl _) (.cells #[.int .i64 ef, .int .i64 efp, .int .i64 et, .int .i64 etp, .slice x zs.length c] 64)
     have DV := zZ (DD.out.below bv)
     have bx := zU 64 wr #[.int .i64 ef, .int .i64 efp, .int .i64 et, .int .i64 etp, .slice x zs.length c]
     have bb0 := bx.cell (k := 0) rfl
     have bb1 := bx.cell (k := 1) rfl
     have bb2 := bx.cell (k := 2) rfl
     have bb3 := bx.cell (k := 3) rfl
     have bb4 := bx.cell (k := 4) rfl
     have kk : (wr.alloc (.cells #[.int .i64 ef, .int .i64 efp, .int .i64 et, .int .i64 etp, .slice x zs.length c] 64)).cell? ⟨K, 1, none⟩ = some (.slice va M.length vc) := DV.out.sb.cell rfl
     have gx0 : (wr.alloc (.cells #[.int .i64 ef, .int .i64 efp, .int .i64 et, .int .i64 etp, .slice x zs.length c] 64)).cell? ⟨w.heap.size, 0, none⟩ = some (.string (zW g.name)) := DV.out.gb.cell rfl
     have gx1 : (wr.alloc (.cells #[.int .i64 ef, .int .i64 efp, .int .i64 et, .int .i64 etp, .slice x zs.length c] 64)).cell? ⟨w.heap.size, 1, none⟩ = some (.slice a1 g.A.length c1) := DV.out.gb.cell rfl
     have gx2 : (wr.alloc (.cells #[.int .i64 ef, .int .i64 efp, .int .i64 et, .int .i64 etp, .slice x zs.length c] 64)).cell? ⟨w.heap.size, 2, none⟩ = some (.slice (some ⟨b, off, none⟩) g.E.length c2) := DV.out.gb.cell rfl
     have gx3 : (wr.alloc (.cells #[.int .i64 ef, .int .i64 efp, .int .i64 et, .int .i64 etp, .slice x zs.length c] 64)).cell? ⟨w.heap.size, 3, none⟩ = some (.slice a3 g.ins.length c3) := DV.out.gb.cell rfl
     have gx4 : (wr.alloc (.cells #[.int .i64 ef, .int .i64 efp, .int .i64 et, .int .i64 etp, .slice x zs.length c] 64)).cell? ⟨w.heap.size, 4, none⟩ = some (.slice a4 g.outs.length c4) := DV.out.gb.cell rfl
     have CA : Hid (∀ U, Below (wr.alloc (.cells #[.int .i64 ef, .int .i64 efp, .int .i64 et, .int .i64 etp, .slice x zs.length c] 64)).heap.size (wr.alloc (.cells #[.int .i64 ef, .int .i64 efp, .int .i64 et, .int .i64 etp, .slice x zs.length c] 64)) U -> Calls Try.prog 57 #[.agg #[.string (zW g.name), .slice a1 g.A.length c1, .slice (some ⟨b, off, none⟩) g.E.length c2, .slice a3 g.ins.length c3, .slice a4 g.outs.length c4], .agg #[.int .i64 ef, .int .i64 efp, .int .i64 et, .int .i64 etp, .slice x zs.length c]] U (lZ (vW g ⟨ef, efp, et, etp, zs⟩) U)) := fun U hb => jH g _ _ _ _ _ _ _ _ ef efp et etp zs x c U (((HG.out.below DD.out.bel).A.at.below bv).below hb) (by have := HLM.out.1; omega) HEK.out.f0 HEK.out.f1 HEK.out.t0 HEK.out.t1 ((HAR.out.below bv).below hb)
     clear bx k0 k1 k2 k3 k4
     have BV := zZ bv
     clear bv
     generalize wr.alloc (.cells #[.int .i64 ef, .int .i64 efp, .int .i64 et, .int .i64 etp, .slice x zs.length c] 64) = V at *
     refine zP 6 (fun i u v => match i with
      | 0 => v = .pointer (some ⟨K, 1, none⟩)
      | 1 => v = .slice va M.length vc
      | 2 => v = .agg #[.string (zW g.name), .slice a1 g.A.length c1, .slice (some ⟨b, off, none⟩) g.E.length c2, .slice a3 g.ins.length c3, .slice a4 g.outs.length c4]
      | 3 => v = .agg #[.int .i64 ef, .int .i64 efp, .int .i64 et, .int .i64 etp, .slice x zs.length c]
      | 4 => kC V (vW g ⟨ef, efp, et, etp, zs⟩) u v
      | 5 => fS V (vW g ⟨ef, efp, et, etp, zs⟩) u v
      | _ => True) (by kernel_rfl) (by kernel_rfl) (by kernel_rfl) (by kernel_rfl) ?_ ?_ ?_
     ·intro i w v w' h hb
      match i, h with
      | 0, h => exact h
      | 1, h => exact h
      | 2, h => exact h
      | 3, h => exact h
      | 4, h => exact kC.later h hb
      | 5, h => exact fS.later h hb
      | _ + 6, _ => trivial
     ·intro i o ρ w' hi ho hb hc hf hfr zY
      have kS := zX hb kk
      have b0 := zX hb bb0
      have b1 := zX hb bb1
      have b2 := zX hb bb2
      have b3 := zX hb bb3
      have b4 := zX hb bb4
      have g0 := zX hb gx0
      have g1 := zX hb gx1
      have g2 := zX hb gx2
      have g3 := zX hb gx3
      have g4 := zX hb gx4
      match i, hi with
      | 0, _ =>
       simp only [qS] at ho
       subst ho
       have ts : ρ (.tmp 5) = .pointer (some ⟨K, 0, none⟩) := hfr 5 (by kernel_rfl)
       simp [go_sem, ts]
       exact qB
      | 1, _ =>
       simp only [qS] at ho
       subst ho
       have ts : ρ (.tmp 45) = .pointer (some ⟨K, 1, none⟩) := zY 0 45 (by kernel_rfl) (by kernel_rfl)
       simp [go_sem, ts, kS]
       exact qB
      | 2, _ =>
       simp only [qS] at ho
       subst ho
       have ts : ρ (.tmp 1) = .pointer (some ⟨w.heap.size, 0, none⟩) := hfr 1 (by kernel_rfl)
       simp [go_sem, ts, g0, g1, g2, g3, g4]
       exact qB
      | 3, _ =>
       simp only [qS] at ho
       subst ho
       have ts : ρ (.tmp 9) = .pointer (some ⟨wr.heap.size, 0, none⟩) := hfr 9 (by kernel_rfl)
       simp [go_sem, ts, b0, b1, b2, b3, b4]
       exact qB
      | 4, _ =>
       simp only [qS] at ho
       subst ho
       have t0 : ρ (.tmp 47) = .agg #[.string (zW g.name), .slice a1 g.A.length c1, .slice (some ⟨b, off, none⟩) g.E.length c2, .slice a3 g.ins.length c3, .slice a4 g.outs.length c4] := zY 2 47 (by kernel_rfl) (by kernel_rfl)
       have t1 : ρ (.tmp 48) = .agg #[.int .i64 ef, .int .i64 efp, .int .i64 et, .int .i64 etp, .slice x zs.length c] := zY 3 48 (by kernel_rfl) (by kernel_rfl)
       simp [go_sem, t0, t1, hf]
       exact ⟨rfl, (CA.out w' hb).mono fun e w'' hh => ZQ hh hb.size⟩
      | 5, _ =>
       simp only [qS] at ho
       subst ho
       obtain ⟨qa, qc, e3, h3⟩ : kC V (vW g ⟨ef, efp, et, etp, zs⟩) w' (ρ (.tmp 49)) := zY 4 49 (by kernel_rfl) (by kernel_rfl)
       simp [go_sem, e3, ZR]
       exact ⟨(Below.refl _ _).alloc (Nat.le_refl _) _, nK h3 _⟩
     intro V9 w9 q9 hS
     have e0 : V9 0 = .pointer (some ⟨K, 1, none⟩) := hS 0 (by decide)
     have e1 : V9 1 = .slice va M.length vc := hS 1 (by decide)
     have e2 : V9 2 = .agg #[.string (zW g.name), .slice a1 g.A.length c1, .slice (some ⟨b, off, none⟩) g.E.length c2, .slice a3 g.ins.length c3, .slice a4 g.outs.length c4] := hS 2 (by decide)
     have e3 : V9 3 = .agg #[.int .i64 ef, .int .i64 efp, .int .i64 et, .int .i64 etp, .slice x zs.length c] := hS 3 (by decide)
     obtain ⟨qa4, qc4, e4, -⟩ : kC V (vW g ⟨ef, efp, et, etp, zs⟩) w9 (V9 4) := hS 4 (by decide)
     obtain ⟨hx, qa, qc, e5, Q1, Q2⟩ : fS V (vW g ⟨ef, efp, et, etp, zs⟩) w9 (V9 5) := hS 5 (by decide)
     simp only [List.drop_succ_cons, List.drop_zero, List.take_succ_cons, List.take_zero, yL, e0, e1, e2, e3, e4, e5]
     clear hS e0 e1 e2 e3 e4 e5 V9
     simp only [Act.put, qU]
     have D9 := zZ DV.out
     have B9 := zZ q9
     have C9 := zZ Q1
     have N9 := zZ Q2
     clear Q1 Q2 q9 DV CA bb0 bb1 bb2 bb3 bb4 gx0 gx1 gx2 gx3 gx4 kk
     go_wp2_with (at_builtin; refine zJ _ rfl (.tmp 46) (.tmp 50) 22 rfl (K + 1) 45 i0 (.agg #[.int .u8 0, .string ⟨#[]⟩, .string ⟨#[]⟩, .slice none 0 0, .string ⟨#[]⟩, .int .i64 0, .int .i64 0, .string ⟨#[]⟩, .int .i64 0, .int .i64 0, .int .i64 0]) 11 136 Try.underlying22 HJ.out HJ0.out HJ1.out HJ2.out rfl (by decide) (.slice va M.length vc) M.length (M.flatMap tL) rfl (zS D9.out.its.row B9.out) ⟨hx, 0, none⟩ 1 1 (by decide) (tL ((vW g ⟨ef, efp, et, etp, zs⟩), .slice qa (vW g ⟨ef, efp, et, etp, zs⟩).nums.length qc)) rfl rfl (fun j u hu => by rw [xC]; exact C9.out j u hu) (rH _ _ _ _) (by unfold maxLen; omega) (by omega) (Nat.le_trans D9.out.big B9.out.size) ?_; intro v' w4 ho ht; obtain ⟨D10, bk⟩ := D9.out.put B9.out (x := (vW g ⟨ef, efp, et, etp, zs⟩)) (q := .slice qa (vW g ⟨ef, efp, et, etp, zs⟩).nums.length qc) N9.out ho ht; obtain ⟨va4, vc4, rfl⟩ := yG ht; have E10 := zZ D10; have s1 : w4.cell? ⟨K, 1, none⟩ = some (.slice va M.length vc) := bk.cell rfl; have f1 := bk.frozen 1; clear ho ht D10 bk)
     go_roundg (g.E.length - (k + 1))
     case measure => omega
     case rel => exact ⟨k + 1, va4, vc4, M ++ [((vW g ⟨ef, efp, et, etp, zs⟩), .slice qa (vW g ⟨ef, efp, et, etp, zs⟩).nums.length qc)], by omega, rfl, by go_num, by rw [List.map_append, MM.out, TK.out, List.map_append, List.append_assoc]; rfl, by rw [List.length_append]; exact E10.out⟩
    have ek : k = g.E.length := by omega
    have MM1 : Hid (M.map Prod.fst = g.A.map wS ++ g.E.map (vW g)) := by
     have e := MM.out
     rw [ek, List.take_length] at e
     exact e
    have hki : ¬ (k : Int) < (g.E.length : Int) := by omega
    clear MM ek
    have y3 : wr.cell? ⟨w.heap.size, 3, none⟩ = some (.slice a3 g.ins.length c3) := DD.out.gb.cell rfl
    go_wp2
    go_loopg [57] g.ins.length (fun gk v wr => ∃ (k : Nat) (va : Option Addr) (vc : Nat) (M : List (yO × Value)), k <= g.ins.length /\ gk = g.ins.length - k /\ v = .int .i64 (k : Int) /\ M.map Prod.fst = g.A.map wS ++ g.E.map (vW g) ++ (g.ins.take k).map (uZ g) /\ ZP w K g a1 a2 a3 a4 c1 c2 c3 c4 (.slice va M.length vc) M wr)
    case atStart => exact ⟨0, va, vc, M, Nat.zero_le _, rfl, rfl, by rw [List.take_zero, List.map_nil, List.append_nil]; exact MM1.out, DD.out⟩
    case round =>
     obtain ⟨k, va, vc, M, hk, rfl, rfl, hM, hD⟩ := hrel
     have DD := zZ hD
     have MM := zZ hM
     clear hM hD
     have LM : M.length <= 160 := by
      have q := congrArg List.length MM.out
      have := HLM.out
      simp only [List.length_map, List.length_append, List.length_take] at q
      omega
     by_cases hlt : k < g.ins.length
     ·have hki : (k : Int) < (g.ins.length : Int) := by omega
      rcases (HG.out.below (DD.out.bel.mono (Nat.le_refl _))).I with e | ⟨b, off, rfl, hc⟩
      ·rw [e] at hlt; exact absurd hlt (Nat.not_lt_zero _)
      obtain ⟨k0, k1, k2⟩ := hc k hlt
      have HEK := zZ (VE (HS.out.ins k hlt)).2.2.1
      have TK := zZ (oO hlt)
      generalize zF g.ins k = E at *
      obtain ⟨nm, ac, po⟩ := E
      simp only at k0 k1 k2 HEK
      clear hc
      go_upto_region 18 with fail
      have bv := (Below.refl wr.heap.size wr).alloc (Nat.le_refl _) (.cells #[.string (zW nm), .int .i64 ac, .int .i64 po] 83)
      have DV := zZ (DD.out.below bv)
      have bx := zU 83 wr #[.string (zW nm), .int .i64 ac, .int .i64 po]
      have bb0 := bx.cell (k := 0) rfl
      have bb1 := bx.cell (k := 1) rfl
      have bb2 := bx.cell (k := 2) rfl
      have kk : (wr.alloc (.cells #[.string (zW nm), .int .i64 ac, .int .i64 po] 83)).cell? ⟨K, 1, none⟩ = some (.slice va M.length vc) := DV.out.sb.cell rfl
      have gx0 : (wr.alloc (.cells #[.string (zW nm), .int .i64 ac, .int .i64 po] 83)).cell? ⟨w.heap.size, 0, none⟩ = some (.string (zW g.name)) := DV.out.gb.cell rfl
      have gx1 : (wr.alloc (.cells #[.string (zW nm), .int .i64 ac, .int .i64 po] 83)).cell? ⟨w.heap.size, 1, none⟩ = some (.slice a1 g.A.length c1) := DV.out.gb.cell rfl
      have gx2 : (wr.alloc (.cells #[.string (zW nm), .int .i64 ac, .int .i64 po] 83)).cell? ⟨w.heap.size, 2, none⟩ = some (.slice a2 g.E.length c2) := DV.out.gb.cell rfl
      have gx3 : (wr.alloc (.cells #[.string (zW nm), .int .i64 ac, .int .i64 po] 83)).cell? ⟨w.heap.size, 3, none⟩ = some (.slice (some ⟨b, off, none⟩) g.ins.length c3) := DV.out.gb.cell rfl
      have gx4 : (wr.alloc (.cells #[.string (zW nm), .int .i64 ac, .int .i64 po] 83)).cell? ⟨w.heap.size, 4, none⟩ = some (.slice a4 g.outs.length c4) := DV.out.gb.cell rfl
      have CA : Hid (∀ U, Below (wr.alloc (.cells #[.string (zW nm), .int .i64 ac, .int .i64 po] 83)).heap.size (wr.alloc (.cells #[.string (zW nm), .int .i64 ac, .int .i64 po] 83)) U -> Calls Try.prog 58 #[.agg #[.string (zW g.name), .slice a1 g.A.length c1, .slice a2 g.E.length c2, .slice (some ⟨b, off, none⟩) g.ins.length c3, .slice a4 g.outs.length c4], .int .i64 ac, .int .i64 po] U fun e w' => e = .returned (.agg #[.string (zW (zI g.A ac.toNat).name), .int .i64 po, .int .i64 0]) /\ Below U.heap.size U w') := fun U hb => vG g _ _ _ _ _ _ _ _ ac po U (((HG.out.below DD.out.bel).A.at.below bv).below hb) HEK.out.1 HEK.out.2.1 (by have := HLM.out.1; omega)
      clear bx k0 k1 k2
      have BV := zZ bv
      clear bv
      generalize wr.alloc (.cells #[.string (zW nm), .int .i64 ac, .int .i64 po] 83) = V at *
      refine zP 12 (fun i u v => match i with
       | 0 => v = .pointer (some ⟨K, 1, none⟩)
       | 1 => v = .slice va M.length vc
       | 2 => v = .pointer (some ⟨wr.heap.size, 0, none⟩)
       | 3 => v = .string (zW nm)
       | 4 => v = .agg #[.string (zW g.name), .slice a1 g.A.length c1, .slice a2 g.E.length c2, .slice (some ⟨b, off, none⟩) g.ins.length c3, .slice a4 g.outs.length c4]
       | 5 => v = .pointer (some ⟨wr.heap.size, 1, none⟩)
       | 6 => v = .int .i64 ac
       | 7 => v = .pointer (some ⟨wr.heap.size, 2, none⟩)
       | 8 => v = .int .i64 po
       | 9 => v = .agg #[.string (zW (zI g.A ac.toNat).name), .int .i64 po, .int .i64 0]
       | 10 => kC V (uZ g ⟨nm, ac, po⟩) u v
       | 11 => fS V (uZ g ⟨nm, ac, po⟩) u v
       | _ => True) (by kernel_rfl) (by kernel_rfl) (by kernel_rfl) (by kernel_rfl) ?_ ?_ ?_
      ·intro i w v w' h hb
       match i, h with
       | 0, h => exact h
       | 1, h => exact h
       | 2, h => exact h
       | 3, h => exact h
       | 4, h => exact h
       | 5, h => exact h
       | 6, h => exact h
       | 7, h => exact h
       | 8, h => exact h
       | 9, h => exact h
       | 10, h => exact kC.later h hb
       | 11, h => exact fS.later h hb
       | _ + 12, _ => trivial
      ·intro i o ρ w' hi ho hb hc hf hfr zY
       have kS := zX hb kk
       have b0 := zX hb bb0
       have b1 := zX hb bb1
       have b2 := zX hb bb2
       have g0 := zX hb gx0
       have g1 := zX hb gx1
       have g2 := zX hb gx2
       have g3 := zX hb gx3
       have g4 := zX hb gx4
       match i, hi with
       | 0, _ =>
        simp only [qS] at ho
        subst ho
        have ts : ρ (.tmp 5) = .pointer (some ⟨K, 0, none⟩) := hfr 5 (by kernel_rfl)
        simp [go_sem, ts]
        exact qB
       | 1, _ =>
        simp only [qS] at ho
        subst ho
        have ts : ρ (.tmp 61) = .pointer (some ⟨K, 1, none⟩) := zY 0 61 (by kernel_rfl) (by kernel_rfl)
        simp [go_sem, ts, kS]
        exact qB
       | 2, _ =>
        simp only [qS] at ho
        subst ho
        have ts : ρ (.tmp 11) = .pointer (some ⟨wr.heap.size, 0, none⟩) := hfr 11 (by kernel_rfl)
        simp [go_sem, ts]
        exact qB
       | 3, _ =>
        simp only [qS] at ho
        subst ho
        have ts : ρ (.tmp 63) = .pointer (some ⟨wr.heap.size, 0, none⟩) := zY 2 63 (by kernel_rfl) (by kernel_rfl)
        simp [go_sem, ts, b0]
        exact qB
       | 4, _ =>
        simp only [qS] at ho
        subst ho
        have ts : ρ (.tmp 1) = .pointer (some ⟨w.heap.size, 0, none⟩) := hfr 1 (by kernel_rfl)
        simp [go_sem, ts, g0, g1, g2, g3, g4]
        exact qB
       | 5, _ =>
        simp only [qS] at ho
        subst ho
        have ts : ρ (.tmp 11) = .pointer (some ⟨wr.heap.size, 0, none⟩) := hfr 11 (by kernel_rfl)
        simp [go_sem, ts]
        exact qB
       | 6, _ =>
        simp only [qS] at ho
        subst ho
        have ts : ρ (.tmp 66) = .pointer (some ⟨wr.heap.size, 1, none⟩) := zY 5 66 (by kernel_rfl) (by kernel_rfl)
        simp [go_sem, ts, b1]
        exact qB
       | 7, _ =>
        simp only [qS] at ho
        subst ho
        have ts : ρ (.tmp 11) = .pointer (some ⟨wr.heap.size, 0, none⟩) := hfr 11 (by kernel_rfl)
        simp [go_sem, ts]
        exact qB
       | 8, _ =>
        simp only [qS] at ho
        subst ho
        have ts : ρ (.tmp 68) = .pointer (some ⟨wr.heap.size, 2, none⟩) := zY 7 68 (by kernel_rfl) (by kernel_rfl)
        simp [go_sem, ts, b2]
        exact qB
       | 9, _ =>
        simp only [qS] at ho
        subst ho
        have t0 : ρ (.tmp 65) = .agg #[.string (zW g.name), .slice a1 g.A.length c1, .slice a2 g.E.length c2, .slice (some ⟨b, off, none⟩) g.ins.length c3, .slice a4 g.outs.length c4] := zY 4 65 (by kernel_rfl) (by kernel_rfl)
        have t1 : ρ (.tmp 67) = .int .i64 ac := zY 6 67 (by kernel_rfl) (by kernel_rfl)
        have t2 : ρ (.tmp 69) = .int .i64 po := zY 8 69 (by kernel_rfl) (by kernel_rfl)
        simp [go_sem, t0, t1, t2, hf]
        exact ⟨rfl, (CA.out w' hb).mono fun e w'' hh => ⟨_, hh.1, hh.2, rfl⟩⟩
       | 10, _ =>
        simp only [qS] at ho
        subst ho
        have t0 : ρ (.tmp 64) = .string (zW nm) := zY 3 64 (by kernel_rfl) (by kernel_rfl)
        have t1 : ρ (.tmp 70) = .agg #[.string (zW (zI g.A ac.toNat).name), .int .i64 po, .int .i64 0] := zY 9 70 (by kernel_rfl) (by kernel_rfl)
        simp [go_sem, t0, t1, hc]
        exact ⟨Below.refl _ _, none, 0, rfl, World.ownsRow_nil _ _ _ _⟩
       | 11, _ =>
        simp only [qS] at ho
        subst ho
        obtain ⟨qa, qc, e3, h3⟩ : kC V (uZ g ⟨nm, ac, po⟩) w' (ρ (.tmp 71)) := zY 10 71 (by kernel_rfl) (by kernel_rfl)
        simp [go_sem, e3, ZR]
        exact ⟨(Below.refl _ _).alloc (Nat.le_refl _) _, nK h3 _⟩
      intro V9 w9 q9 hS
      have e0 : V9 0 = .pointer (some ⟨K, 1, none⟩) := hS 0 (by decide)
      have e1 : V9 1 = .slice va M.length vc := hS 1 (by decide)
      have e2 : V9 2 = .pointer (some ⟨wr.heap.size, 0, none⟩) := hS 2 (by decide)
      have e3 : V9 3 = .string (zW nm) := hS 3 (by decide)
      have e4 : V9 4 = .agg #[.string (zW g.name), .slice a1 g.A.length c1, .slice a2 g.E.length c2, .slice (some ⟨b, off, none⟩) g.ins.length c3, .slice a4 g.outs.length c4] := hS 4 (by decide)
      have e5 : V9 5 = .pointer (some ⟨wr.heap.size, 1, none⟩) := hS 5 (by decide)
      have e6 : V9 6 = .int .i64 ac := hS 6 (by decide)
      have e7 : V9 7 = .pointer (some ⟨wr.heap.size, 2, none⟩) := hS 7 (by decide)
      have e8 : V9 8 = .int .i64 po := hS 8 (by decide)
      have e9 : V9 9 = .agg #[.string (zW (zI g.A ac.toNat).name), .int .i64 po, .int .i64 0] := hS 9 (by decide)
      obtain ⟨qa10, qc10, e10, -⟩ : kC V (uZ g ⟨nm, ac, po⟩) w9 (V9 10) := hS 10 (by decide)
      obtain ⟨hx, qa, qc, e11, Q1, Q2⟩ : fS V (uZ g ⟨nm, ac, po⟩) w9 (V9 11) := hS 11 (by decide)
      simp only [List.drop_succ_cons, List.drop_zero, List.take_succ_cons, List.take_zero, yL, e0, e1, e2, e3, e4, e5, e6, e7, e8, e9, e10, e11]
      clear hS e0 e1 e2 e3 e4 e5 e6 e7 e8 e9 e10 e11 V9
      simp only [Act.put, qU]
      have D9 := zZ DV.out
      have B9 := zZ q9
      have C9 := zZ Q1
      have N9 := zZ Q2
      clear Q1 Q2 q9 DV CA bb0 bb1 bb2 gx0 gx1 gx2 gx3 gx4 kk
      go_wp2_with (at_builtin; refine zJ _ rfl (.tmp 62) (.tmp 72) 22 rfl (K + 1) 45 i0 (.agg #[.int .u8 0, .string ⟨#[]⟩, .string ⟨#[]⟩, .slice none 0 0, .string ⟨#[]⟩, .int .i64 0, .int .i64 0, .string ⟨#[]⟩, .int .i64 0, .int .i64 0, .int .i64 0]) 11 136 Try.underlying22 HJ.out HJ0.out HJ1.out HJ2.out rfl (by decide) (.slice va M.length vc) M.length (M.flatMap tL) rfl (zS D9.out.its.row B9.out) ⟨hx, 0, none⟩ 1 1 (by decide) (tL ((uZ g ⟨nm, ac, po⟩), .slice qa (uZ g ⟨nm, ac, po⟩).nums.length qc)) rfl rfl (fun j u hu => by rw [xC]; exact C9.out j u hu) (rH _ _ _ _) (by unfold maxLen; omega) (by omega) (Nat.le_trans D9.out.big B9.out.size) ?_; intro v' w4 ho ht; obtain ⟨D10, bk⟩ := D9.out.put B9.out (x := (uZ g ⟨nm, ac, po⟩)) (q := .slice qa (uZ g ⟨nm, ac, po⟩).nums.length qc) N9.out ho ht; obtain ⟨va4, vc4, rfl⟩ := yG ht; have E10 := zZ D10; have s1 : w4.cell? ⟨K, 1, none⟩ = some (.slice va M.length vc) := bk.cell rfl; have f1 := bk.frozen 1; clear ho ht D10 bk)
      go_roundg (g.ins.length - (k + 1))
      case measure => omega
      case rel => exact ⟨k + 1, va4, vc4, M ++ [((uZ g ⟨nm, ac, po⟩), .slice qa (uZ g ⟨nm, ac, po⟩).nums.length qc)], by omega, rfl, by go_num, by rw [List.map_append, MM.out, TK.out, List.map_append, List.append_assoc]; rfl, by rw [List.length_append]; exact E10.out⟩
     have ek : k = g.ins.length := by omega
     have MM2 : Hid (M.map Prod.fst = g.A.map wS ++ g.E.map (vW g) ++ g.ins.map (uZ g)) := by
      have e := MM.out
      rw [ek, List.take_length] at e
      exact e
     have hki : ¬ (k : Int) < (g.ins.length : Int) := by omega
     clear MM ek
     have y4 : wr.cell? ⟨w.heap.size, 4, none⟩ = some (.slice a4 g.outs.length c4) := DD.out.gb.cell rfl
     go_wp2
     go_loopg [79] g.outs.length (fun gk v wr => ∃ (k : Nat) (va : Option Addr) (vc : Nat) (M : List (yO × Value)), k <= g.outs.length /\ gk = g.outs.length - k /\ v = .int .i64 (k : Int) /\ M.map Prod.fst = g.A.map wS ++ g.E.map (vW g) ++ g.ins.map (uZ g) ++ (g.outs.take k).map (tY g) /\ ZP w K g a1 a2 a3 a4 c1 c2 c3 c4 (.slice va M.length vc) M wr)
     case atStart => exact ⟨0, va, vc, M, Nat.zero_le _, rfl, rfl, by rw [List.take_zero, List.map_nil, List.append_nil]; exact MM2.out, DD.out⟩
     case round =>
      obtain ⟨k, va, vc, M, hk, rfl, rfl, hM, hD⟩ := hrel
      have DD := zZ hD
      have MM := zZ hM
      clear hM hD
      have LM : M.length <= 160 := by
       have q := congrArg List.length MM.out
       have := HLM.out
       simp only [List.length_map, List.length_append, List.length_take] at q
       omega
      by_cases hlt : k < g.outs.length
      ·have hki : (k : Int) < (g.outs.length : Int) := by omega
       rcases (HG.out.below (DD.out.bel.mono (Nat.le_refl _))).O with e | ⟨b, off, rfl, hc⟩
       ·rw [e] at hlt; exact absurd hlt (Nat.not_lt_zero _)
       obtain ⟨k0, k1, k2⟩ := hc k hlt
       have HEK := zZ (ZS (HS.out.outs k hlt)).2.2.1
       have TK := zZ (oO hlt)
       generalize zF g.outs k = E at *
       obtain ⟨nm, ac, po⟩ := E
       simp only at k0 k1 k2 HEK
       clear hc
       go_upto_region 23 with fail
       have bv := (Below.refl wr.heap.size wr).alloc (Nat.le_refl _) (.cells #[.string (zW nm), .int .i64 ac, .int .i64 po] 83)
       have DV := zZ (DD.out.below bv)
       have bx := zU 83 wr #[.string (zW nm), .int .i64 ac, .int .i64 po]
       have bb0 := bx.cell (k := 0) rfl
       have bb1 := bx.cell (k := 1) rfl
       have bb2 := bx.cell (k := 2) rfl
       have kk : (wr.alloc (.cells #[.string (zW nm), .int .i64 ac, .int .i64 po] 83)).cell? ⟨K, 1, none⟩ = some (.slice va M.length vc) := DV.out.sb.cell rfl
       have gx0 : (wr.alloc (.cells #[.string (zW nm), .int .i64 ac, .int .i64 po] 83)).cell? ⟨w.heap.size, 0, none⟩ = some (.string (zW g.name)) := DV.out.gb.cell rfl
       have gx1 : (wr.alloc (.cells #[.string (zW nm), .int .i64 ac, .int .i64 po] 83)).cell? ⟨w.heap.size, 1, none⟩ = some (.slice a1 g.A.length c1) := DV.out.gb.cell rfl
       have gx2 : (wr.alloc (.cells #[.string (zW nm), .int .i64 ac, .int .i64 po] 83)).cell? ⟨w.heap.size, 2, none⟩ = some (.slice a2 g.E.length c2) := DV.out.gb.cell rfl
       have gx3 : (wr.alloc (.cells #[.string (zW nm), .int .i64 ac, .int .i64 po] 83)).cell? ⟨w.heap.size, 3, none⟩ = some (.slice a3 g.ins.length c3) := DV.out.gb.cell rfl
       have gx4 : (wr.alloc (.cells #[.string (zW nm), .int .i64 ac, .int .i64 po] 83)).cell? ⟨w.heap.size, 4, none⟩ = some (.slice (some ⟨b, off, none⟩) g.outs.length c4) := DV.out.gb.cell rfl
       have CA : Hid (∀ U, Below (wr.alloc (.cells #[.string (zW nm), .int .i64 ac, .int .i64 po] 83)).heap.size (wr.alloc (.cells #[.string (zW nm), .int .i64 ac, .int .i64 po] 83)) U -> Calls Try.prog 58 #[.agg #[.string (zW g.name), .slice a1 g.A.length c1, .slice a2 g.E.length c2, .slice a3 g.ins.length c3, .slice (some ⟨b, off, none⟩) g.outs.length c4], .int .i64 ac, .int .i64 po] U fun e w' => e = .returned (.agg #[.string (zW (zI g.A ac.toNat).name), .int .i64 po, .int .i64 0]) /\ Below U.heap.size U w') := fun U hb => vG g _ _ _ _ _ _ _ _ ac po U (((HG.out.below DD.out.bel).A.at.below bv).below hb) HEK.out.1 HEK.out.2.1 (by have := HLM.out.1; omega)
       clear bx k0 k1 k2
       have BV := zZ bv
       clear bv
       generalize wr.alloc (.cells #[.string (zW nm), .int .i64 ac, .int .i64 po] 83) = V at *
       refine zP 12 (fun i u v => match i with
        | 0 => v = .pointer (some ⟨K, 1, none⟩)
        | 1 => v = .slice va M.length vc
        | 2 => v = .pointer (some ⟨wr.heap.size, 0, none⟩)
        | 3 => v = .string (zW nm)
        | 4 => v = .agg #[.string (zW g.name), .slice a1 g.A.length c1, .slice a2 g.E.length c2, .slice a3 g.ins.length c3, .slice (some ⟨b, off, none⟩) g.outs.length c4]
        | 5 => v = .pointer (some ⟨wr.heap.size, 1, none⟩)
        | 6 => v = .int .i64 ac
        | 7 => v = .pointer (some ⟨wr.heap.size, 2, none⟩)
        | 8 => v = .int .i64 po
        | 9 => v = .agg #[.string (zW (zI g.A ac.toNat).name), .int .i64 po, .int .i64 0]
        | 10 => kC V (tY g ⟨nm, ac, po⟩) u v
        | 11 => fS V (tY g ⟨nm, ac, po⟩) u v
        | _ => True) (by kernel_rfl) (by kernel_rfl) (by kernel_rfl) (by kernel_rfl) ?_ ?_ ?_
       ·intro i w v w' h hb
        match i, h with
        | 0, h => exact h
        | 1, h => exact h
        | 2, h => exact h
        | 3, h => exact h
        | 4, h => exact h
        | 5, h => exact h
        | 6, h => exact h
        | 7, h => exact h
        | 8, h => exact h
        | 9, h => exact h
        | 10, h => exact kC.later h hb
        | 11, h => exact fS.later h hb
        | _ + 12, _ => trivial
       ·intro i o ρ w' hi ho hb hc hf hfr zY
        have kS := zX hb kk
        have b0 := zX hb bb0
        have b1 := zX hb bb1
        have b2 := zX hb bb2
        have g0 := zX hb gx0
        have g1 := zX hb gx1
        have g2 := zX hb gx2
        have g3 := zX hb gx3
        have g4 := zX hb gx4
        match i, hi with
        | 0, _ =>
         simp only [qS] at ho
         subst ho
         have ts : ρ (.tmp 5) = .pointer (some ⟨K, 0, none⟩) := hfr 5 (by kernel_rfl)
         simp [go_sem, ts]
         exact qB
        | 1, _ =>
         simp only [qS] at ho
         subst ho
         have ts : ρ (.tmp 83) = .pointer (some ⟨K, 1, none⟩) := zY 0 83 (by kernel_rfl) (by kernel_rfl)
         simp [go_sem, ts, kS]
         exact qB
        | 2, _ =>
         simp only [qS] at ho
         subst ho
         have ts : ρ (.tmp 13) = .pointer (some ⟨wr.heap.size, 0, none⟩) := hfr 13 (by kernel_rfl)
         simp [go_sem, ts]
         exact qB
        | 3, _ =>
         simp only [qS] at ho
         subst ho
         have ts : ρ (.tmp 85) = .pointer (some ⟨wr.heap.size, 0, none⟩) := zY 2 85 (by kernel_rfl) (by kernel_rfl)
         simp [go_sem, ts, b0]
         exact qB
        | 4, _ =>
         simp only [qS] at ho
         subst ho
         have ts : ρ (.tmp 1) = .pointer (some ⟨w.heap.size, 0, none⟩) := hfr 1 (by kernel_rfl)
         simp [go_sem, ts, g0, g1, g2, g3, g4]
         exact qB
        | 5, _ =>
         simp only [qS] at ho
         subst ho
         have ts : ρ (.tmp 13) = .pointer (some ⟨wr.heap.size, 0, none⟩) := hfr 13 (by kernel_rfl)
         simp [go_sem, ts]
         exact qB
        | 6, _ =>
         simp only [qS] at ho
         subst ho
         have ts : ρ (.tmp 88) = .pointer (some ⟨wr.heap.size, 1, none⟩) := zY 5 88 (by kernel_rfl) (by kernel_rfl)
         simp [go_sem, ts, b1]
         exact qB
        | 7, _ =>
         simp only [qS] at ho
         subst ho
         have ts : ρ (.tmp 13) = .pointer (some ⟨wr.heap.size, 0, none⟩) := hfr 13 (by kernel_rfl)
         simp [go_sem, ts]
         exact qB
        | 8, _ =>
         simp only [qS] at ho
         subst ho
         have ts : ρ (.tmp 90) = .pointer (some ⟨wr.heap.size, 2, none⟩) := zY 7 90 (by kernel_rfl) (by kernel_rfl)
         simp [go_sem, ts, b2]
         exact qB
        | 9, _ =>
         simp only [qS] at ho
         subst ho
         have t0 : ρ (.tmp 87) = .agg #[.string (zW g.name), .slice a1 g.A.length c1, .slice a2 g.E.length c2, .slice a3 g.ins.length c3, .slice (some ⟨b, off, none⟩) g.outs.length c4] := zY 4 87 (by kernel_rfl) (by kernel_rfl)
         have t1 : ρ (.tmp 89) = .int .i64 ac := zY 6 89 (by kernel_rfl) (by kernel_rfl)
         have t2 : ρ (.tmp 91) = .int .i64 po := zY 8 91 (by kernel_rfl) (by kernel_rfl)
         simp [go_sem, t0, t1, t2, hf]
         exact ⟨rfl, (CA.out w' hb).mono fun e w'' hh => ⟨_, hh.1, hh.2, rfl⟩⟩
        | 10, _ =>
         simp only [qS] at ho
         subst ho
         have t0 : ρ (.tmp 86) = .string (zW nm) := zY 3 86 (by kernel_rfl) (by kernel_rfl)
         have t1 : ρ (.tmp 92) = .agg #[.string (zW (zI g.A ac.toNat).name), .int .i64 po, .int .i64 0] := zY 9 92 (by kernel_rfl) (by kernel_rfl)
         simp [go_sem, t0, t1, hc]
         exact ⟨Below.refl _ _, none, 0, rfl, World.ownsRow_nil _ _ _ _⟩
        | 11, _ =>
         simp only [qS] at ho
         subst ho
         obtain ⟨qa, qc, e3, h3⟩ : kC V (tY g ⟨nm, ac, po⟩) w' (ρ (.tmp 93)) := zY 10 93 (by kernel_rfl) (by kernel_rfl)
         simp [go_sem, e3, ZR]
         exact ⟨(Below.refl _ _).alloc (Nat.le_refl _) _, nK h3 _⟩
       intro V9 w9 q9 hS
       have e0 : V9 0 = .pointer (some ⟨K, 1, none⟩) := hS 0 (by decide)
       have e1 : V9 1 = .slice va M.length vc := hS 1 (by decide)
       have e2 : V9 2 = .pointer (some ⟨wr.heap.size, 0, none⟩) := hS 2 (by decide)
       have e3 : V9 3 = .string (zW nm) := hS 3 (by decide)
       have e4 : V9 4 = .agg #[.string (zW g.name), .slice a1 g.A.length c1, .slice a2 g.E.length c2, .slice a3 g.ins.length c3, .slice (some ⟨b, off, none⟩) g.outs.length c4] := hS 4 (by decide)
       have e5 : V9 5 = .pointer (some ⟨wr.heap.size, 1, none⟩) := hS 5 (by decide)
       have e6 : V9 6 = .int .i64 ac := hS 6 (by decide)
       have e7 : V9 7 = .pointer (some ⟨wr.heap.size, 2, none⟩) := hS 7 (by decide)
       have e8 : V9 8 = .int .i64 po := hS 8 (by decide)
       have e9 : V9 9 = .agg #[.string (zW (zI g.A ac.toNat).name), .int .i64 po, .int .i64 0] := hS 9 (by decide)
       obtain ⟨qa10, qc10, e10, -⟩ : kC V (tY g ⟨nm, ac, po⟩) w9 (V9 10) := hS 10 (by decide)
       obtain ⟨hx, qa, qc, e11, Q1, Q2⟩ : fS V (tY g ⟨nm, ac, po⟩) w9 (V9 11) := hS 11 (by decide)
       simp only [List.drop_succ_cons, List.drop_zero, List.take_succ_cons, List.take_zero, yL, e0, e1, e2, e3, e4, e5, e6, e7, e8, e9, e10, e11]
       clear hS e0 e1 e2 e3 e4 e5 e6 e7 e8 e9 e10 e11 V9
       simp only [Act.put, qU]
       have D9 := zZ DV.out
       have B9 := zZ q9
       have C9 := zZ Q1
       have N9 := zZ Q2
       clear Q1 Q2 q9 DV CA bb0 bb1 bb2 gx0 gx1 gx2 gx3 gx4 kk
       go_wp2_with (at_builtin; refine zJ _ rfl (.tmp 84) (.tmp 94) 22 rfl (K + 1) 45 i0 (.agg #[.int .u8 0, .string ⟨#[]⟩, .string ⟨#[]⟩, .slice none 0 0, .string ⟨#[]⟩, .int .i64 0, .int .i64 0, .string ⟨#[]⟩, .int .i64 0, .int .i64 0, .int .i64 0]) 11 136 Try.underlying22 HJ.out HJ0.out HJ1.out HJ2.out rfl (by decide) (.slice va M.length vc) M.length (M.flatMap tL) rfl (zS D9.out.its.row B9.out) ⟨hx, 0, none⟩ 1 1 (by decide) (tL ((tY g ⟨nm, ac, po⟩), .slice qa (tY g ⟨nm, ac, po⟩).nums.length qc)) rfl rfl (fun j u hu => by rw [xC]; exact C9.out j u hu) (rH _ _ _ _) (by unfold maxLen; omega) (by omega) (Nat.le_trans D9.out.big B9.out.size) ?_; intro v' w4 ho ht; obtain ⟨D10, bk⟩ := D9.out.put B9.out (x := (tY g ⟨nm, ac, po⟩)) (q := .slice qa (tY g ⟨nm, ac, po⟩).nums.length qc) N9.out ho ht; obtain ⟨va4, vc4, rfl⟩ := yG ht; have E10 := zZ D10; have s1 : w4.cell? ⟨K, 1, none⟩ = some (.slice va M.length vc) := bk.cell rfl; have f1 := bk.frozen 1; clear ho ht D10 bk)
       go_roundg (g.outs.length - (k + 1))
       case measure => omega
       case rel => exact ⟨k + 1, va4, vc4, M ++ [((tY g ⟨nm, ac, po⟩), .slice qa (tY g ⟨nm, ac, po⟩).nums.length qc)], by omega, rfl, by go_num, by rw [List.map_append, MM.out, TK.out, List.map_append, List.append_assoc]; rfl, by rw [List.length_append]; exact E10.out⟩
      have ek : k = g.outs.length := by omega
      have MM3 : Hid (M.map Prod.fst = g.A.map wS ++ g.E.map (vW g) ++ g.ins.map (uZ g) ++ g.outs.map (tY g)) := by
       have e := MM.out
       rw [ek, List.take_length] at e
       exact e
      have hki : ¬ (k : Int) < (g.outs.length : Int) := by omega
      clear MM ek
      have s0 : wr.cell? ⟨K, 0, none⟩ = some (.string (zW g.name)) := DD.out.sb.cell rfl
      have s1 : wr.cell? ⟨K, 1, none⟩ = some (.slice va M.length vc) := DD.out.sb.cell rfl
      go_wp2_with (refine zM _ rfl 24 (.tmp 2) (.tmp 98) rfl rfl (w.heap.size + 1) 24 _ _ rfl rfl DD.out.rb sizS rfl rfl ?_; intro w8 hN hU; have N8 := zZ hN; have U8 := zZ hU; clear hN hU)
      have r0 : w8.cell? ⟨w.heap.size + 1, 0, none⟩ = some (.string (zW g.name)) := N8.out.cell rfl
      have r1 : w8.cell? ⟨w.heap.size + 1, 1, none⟩ = some (.slice va M.length vc) := N8.out.cell rfl
      refine bodyPost_ret (v := .tuple #[.agg #[.string (zW g.name), .slice va M.length vc], .int .i64 0]) (by simp [results, Try.results26, go_sem, r0, r1]) rfl ?_
      refine H1.out _ _ ⟨va, vc, M, rfl, by rw [MM3.out]; unfold tK; simp only [List.append_assoc], ?_, DD.out.bel.trans (U8.out.below (Nat.le_succ _) DD.out.bel.size)⟩
      exact (WC DD.out.its U8.out DD.out.hk).mono (Nat.le_of_lt (Nat.lt_trans (Nat.lt_succ_self _) (Nat.lt_trans DD.out.hk (Nat.lt_succ_self _))))
 have H1 : Hid (∀ e w', (e = .returned (.tuple #[.agg #[.string ⟨#[]⟩, .slice none 0 0], .int .i64 (yZ g).code]) /\ Below w.heap.size w w') -> tX g w e w') := fun e w' q => by
  unfold tX
  rw [if_neg h0]
  exact q
 generalize (yZ g).code = cd at *
 have q1 : (cd != 0) = true := by simpa using h0
 clear ba gg nr h HE
 go_enter Try.func26, Try.ntmps26
 go_upto_region 1 with fail
 generalize (w.alloc (.cells #[.string (zW g.name), .slice a1 g.A.length c1, .slice a2 g.E.length c2, .slice a3 g.ins.length c3, .slice a4 g.outs.length c4] 31)).alloc (.cells #[.string ⟨#[]⟩, .slice none 0 0] 24) = W0 at *
 go_wp2_with (first
  | (refine zM _ rfl 24 (.tmp 2) (.tmp 18) rfl rfl (w.heap.size + 1) 24 _ _ rfl rfl (NR.out.below B1.out) sizS rfl rfl ?_; intro w8 hN hU; have N8 := zZ hN; have U8 := zZ hU; clear hN hU)
  | (go_at_call 27; (with_reducible refine CK.out.mono ?_); rintro e w1 ⟨rfl, b1⟩; have B1 := zZ b1; clear b1 y0 y1 y2 y3 y4))
 have r0 : w8.cell? ⟨w.heap.size + 1, 0, none⟩ = some (.string ⟨#[]⟩) := N8.out.cell rfl
 have r1 : w8.cell? ⟨w.heap.size + 1, 1, none⟩ = some (.slice none 0 0) := N8.out.cell rfl
 refine bodyPost_ret (v := .tuple #[.agg #[.string ⟨#[]⟩, .slice none 0 0], .int .i64 cd]) (by simp [results, Try.results26, go_sem, r0, r1]) rfl ?_
 have b2 := BA.out.trans (B1.out.mono BA.out.size)
 exact H1.out _ _ ⟨rfl, b2.trans (U8.out.below (Nat.le_succ _) b2.size)⟩
def kW : List (List UInt8) -> Nat -> Int -> List UInt8 -> Int
 | [], _, d, _ => d
 | n :: r, i, d, x => kW r (i + 1) (if n = x then (i : Int) else d) x
def xN (ns : List (List UInt8)) (x : List UInt8) : Int := kW ns 0 (-1) x
theorem gV (s x : List UInt8) : ∀ (ns : List (List UInt8)) (i : Nat) (d : Int), kW (ns ++ [s]) i d x = if s = x then ((i + ns.length : Nat) : Int) else kW ns i d x
 | [], i, d => rfl
 | n :: r, i, d => by
  show kW (r ++ [s]) (i + 1) (if n = x then (i : Int) else d) x = _
  rw [gV s x r (i + 1)]
  have e : i + 1 + r.length = i + (n :: r).length := by simp; omega
  rw [e]
  rfl
theorem gU (ns : List (List UInt8)) (s x : List UInt8) : xN (ns ++ [s]) x = if s = x then (ns.length : Int) else xN ns x := by
 unfold xN
 rw [gV, Nat.zero_add]
theorem kB {x : List UInt8} : ∀ (ns : List (List UInt8)) (i : Nat) (d : Int), ¬ x ∈ ns -> kW ns i d x = d
 | [], _, _, _ => rfl
 | n :: r, i, d, h => by
  show kW r (i + 1) (if n = x then (i : Int) else d) x = d
  rw [if_neg (fun e => h (by rw [e]; exact List.mem_cons_self)), kB r (i + 1) d (fun e => h (List.mem_cons_of_mem _ e))]
theorem cE {ns : List (List UInt8)} {x : List UInt8} (h : ¬ x ∈ ns) : xN ns x = -1 := kB ns 0 (-1) h
def yA (k : Int) (L : List yO) : List yO := L.filter (fun x => decide (x.kind = k))
def xF (L : List yO) : List (List UInt8) := (yA 1 L).map yO.name
def YF (x : yO) : GA := ⟨x.name, (uY x.tag).1, x.nums⟩
def VD (ns : List (List UInt8)) (x : yO) : GE := ⟨xN ns x.frm.name, x.frm.port, xN ns x.tgt.name, x.tgt.port, x.nums⟩
def TY (ns : List (List UInt8)) (x : yO) : GP := ⟨x.name, xN ns x.tgt.name, x.tgt.port⟩
def TX (ns : List (List UInt8)) (x : yO) : GP := ⟨x.name, xN ns x.frm.name, x.frm.port⟩
def ZN (nm : List UInt8) (ns : List (List UInt8)) (L : List yO) : GG := ⟨nm, (yA 1 L).map YF, (yA 2 L).map (VD ns), (yA 3 L).map (TY ns), (yA 4 L).map (TX ns)⟩
def yT (nm : List UInt8) (L : List yO) : GG := ZN nm (xF L) L
theorem zK (k : Int) (L : List yO) (x : yO) : yA k (L ++ [x]) = if x.kind = k then yA k L ++ [x] else yA k L := by
 unfold yA
 rw [List.filter_append]
 by_cases h : x.kind = k
 ·simp [h]
 simp [h]
theorem uQ (k : Int) (L : List yO) : (yA k L).length <= L.length := List.length_filter_le _ _
def xH (x : yO) : Bool := decide (x.kind < 1) || decide (4 < x.kind)
def vQ : List yO -> Nat -> Int
 | [], _ => -1
 | x :: r, i => if xH x = true then (i : Int) else vQ r (i + 1)
def uX (x : yO) (e : Nat) : Int := if e = 1 then x.frm.place else if e = 2 then x.tgt.place else x.place
def xB : List yO -> Nat -> FL -> Int
 | [], _, _ => 0
 | x :: r, n, f => if x.kind = (f.kind : Int) then (if n = f.number then uX x f.stop else xB r (n + 1) f) else xB r n f
def YE : GG := ⟨[], [], [], [], []⟩
def yI (nm : List UInt8) (L : List yO) : GG × Int × Int :=
 if 0 <= vQ L 0 then (YE, 1, (L.getD (vQ L 0).toNat nY).place)
 else if (yZ (yT nm L)).code ≠ 0 then (YE, (yZ (yT nm L)).code, xB L 0 (yZ (yT nm L))) else (yT nm L, 0, 0)
theorem qE : ∀ (L : List yO) (i : Nat), vQ L i = -1 \/ ((i : Int) <= vQ L i /\ vQ L i < ((i + L.length : Nat) : Int))
 | [], _ => .inl rfl
 | x :: r, i => by
  show (if xH x = true then (i : Int) else vQ r (i + 1)) = -1 \/ _
  by_cases h : xH x = true
  ·right
   have e : vQ (x :: r) i = (i : Int) := by show (if xH x = true then (i : Int) else vQ r (i + 1)) = _; rw [if_pos h]
   rw [e]
   simp
   omega
  have e : vQ (x :: r) i = vQ r (i + 1) := by show (if xH x = true then (i : Int) else vQ r (i + 1)) = _; rw [if_neg h]
  rw [if_neg h, e]
  rcases qE r (i + 1) with q | q
  ·exact .inl q
  right
  simp only [List.length_cons]
  omega
theorem jG {L : List (yO × Value)} {i : Nat} (h : i < L.length) : (L.map Prod.fst).drop i = (yV L i).1 :: (L.map Prod.fst).drop (i + 1) := by
 rw [List.drop_eq_getElem_cons (by rw [List.length_map]; exact h), List.getElem_map]
 unfold yV
 rw [List.getD_eq_getElem?_getD, List.getElem?_eq_getElem h]
 rfl
def VC : List (List UInt8) -> Nat -> List UInt8 -> Int
 | [], _, _ => -1
 | n :: r, i, x => if n = x then (i : Int) else VC r (i + 1) x
def vK (ns : List (List UInt8)) (x : List UInt8) : Int := VC ns 0 x
def bB : List yO -> Nat -> List UInt8 -> Int
 | [], _, _ => -1
 | x :: r, i, s => if x.kind = 1 then (if x.name = s then (i : Int) else bB r (i + 1) s) else bB r i s
theorem eY (s : List UInt8) : ∀ (L : List yO) (i : Nat), bB L i s = VC (xF L) i s
 | [], _ => rfl
 | x :: r, i => by
  show (if x.kind = 1 then (if x.name = s then (i : Int) else bB r (i + 1) s) else bB r i s) = _
  by_cases h : x.kind = 1
  ·have e : xF (x :: r) = x.name :: xF r := by unfold xF yA; rw [List.filter_cons_of_pos (by simp [h])]; rfl
   rw [if_pos h, e, eY s r (i + 1)]
   rfl
  have e : xF (x :: r) = xF r := by unfold xF yA; rw [List.filter_cons_of_neg (by simp [h])]
  rw [if_neg h, e, eY s r i]
theorem gT {x : List UInt8} : ∀ (ns : List (List UInt8)) (i : Nat), ¬ x ∈ ns -> VC ns i x = -1
 | [], _, _ => rfl
 | n :: r, i, h => by
  show (if n = x then (i : Int) else VC r (i + 1) x) = -1
  rw [if_neg (fun e => h (by rw [e]; exact List.mem_cons_self)), gT r (i + 1) (fun e => h (List.mem_cons_of_mem _ e))]
theorem dN {x : List UInt8} : ∀ (ns : List (List UInt8)) (i : Nat) (d : Int), ns.Nodup -> kW ns i d x = if x ∈ ns then VC ns i x else d
 | [], _, _, _ => by rw [if_neg (by simp)]; rfl
 | n :: r, i, d, h => by
  rw [List.nodup_cons] at h
  have e : kW (n :: r) i d x = kW r (i + 1) (if n = x then (i : Int) else d) x := rfl
  rw [e, dN r (i + 1) _ h.2]
  by_cases hx : n = x
  ·subst hx
   rw [if_neg h.1, if_pos rfl, if_pos List.mem_cons_self]
   show _ = (if n = n then (i : Int) else _)
   rw [if_pos rfl]
  have e2 : (x ∈ n :: r) ↔ x ∈ r := by rw [List.mem_cons]; exact ⟨fun q => q.resolve_left (fun w => hx w.symm), .inr⟩
  have e3 : VC (n :: r) i x = VC r (i + 1) x := by show (if n = x then (i : Int) else _) = _; rw [if_neg hx]
  by_cases hr : x ∈ r
  ·rw [if_pos hr, if_pos (e2.2 hr), e3]
  rw [if_neg hr, if_neg (fun q => hr (e2.1 q)), if_neg hx]
theorem nJ {ns : List (List UInt8)} (h : ns.Nodup) (x : List UInt8) : vK ns x = xN ns x := by
 unfold vK xN
 rw [dN ns 0 (-1) h]
 by_cases hx : x ∈ ns
 ·rw [if_pos hx]
 rw [if_neg hx, gT ns 0 hx]
def wE (ns : List (List UInt8)) (x : yO) : GE := ⟨vK ns x.frm.name, x.frm.port, vK ns x.tgt.name, x.tgt.port, x.nums⟩
def wI (ns : List (List UInt8)) (x : yO) : GP := ⟨x.name, vK ns x.tgt.name, x.tgt.port⟩
def wO (ns : List (List UInt8)) (x : yO) : GP := ⟨x.name, vK ns x.frm.name, x.frm.port⟩
def ofN (ns : List (List UInt8)) (nm : List UInt8) (L : List yO) : GG := ⟨nm, (yA 1 L).map YF, ((yA 2 L).map (wE ns)).take 97, ((yA 3 L).map (wI ns)).take 17, ((yA 4 L).map (wO ns)).take 17⟩
def kV (nm : List UInt8) (L : List yO) : GG := ofN (xF L) nm L
theorem jF {g : GG} (h : (yY g.A.length 0 (fun i => (yR g i, 0)) 1).code = 0) : (g.A.map (fun a => a.name)).Nodup := by
 have h1 := (kF (L := fun i => YH g i 0 0) (x := fun i => (zI g.A i).name) g.A.length (fun i hi => nsG_A hi)).2 ⟨by simp [YH], fun i hi => by
  have := mF (vL _ _ h i (Nat.zero_le _) (by omega))
  exact UB.1 this.2.1⟩
 have e : YH g g.A.length 0 0 = g.A.map (fun a => a.name) := by unfold YH; simp
 rw [<- e]; exact h1
theorem dM {nm : List UInt8} {L : List yO} (h : (xD (yT nm L)).code = 0) (ha : (yY (yT nm L).A.length 0 (fun i => (yR (yT nm L) i, 0)) 1).code = 0) : kV nm L = yT nm L := by
 have hh := rJ h
 have hn : (xF L).Nodup := by
  have q := jF ha
  have e : (yT nm L).A.map (fun a => a.name) = xF L := by
   show ((yA 1 L).map YF).map (fun a => a.name) = _
   rw [List.map_map]; rfl
  rw [<- e]; exact q
 have e1 : wE (xF L) = VD (xF L) := by funext x; unfold wE VD; rw [nJ hn, nJ hn]
 have e2 : wI (xF L) = TY (xF L) := by funext x; unfold wI TY; rw [nJ hn]
 have e3 : wO (xF L) = TX (xF L) := by funext x; unfold wO TX; rw [nJ hn]
 have l1 : ((yA 2 L).map (VD (xF L))).length <= 96 := hh.2.2.2.1
 have l2 : ((yA 3 L).map (TY (xF L))).length <= 16 := hh.2.2.2.2.1
 have l3 : ((yA 4 L).map (TX (xF L))).length <= 16 := hh.2.2.2.2.2
 unfold kV ofN yT ZN
 rw [e1, e2, e3, List.take_of_length_le (by omega), List.take_of_length_le (by omega), List.take_of_length_le (by omega)]
theorem dL (nm : List UInt8) (L : List yO) : xD (kV nm L) = xD (yT nm L) := by
 have e1 : (96 < (kV nm L).E.length) = (96 < (yT nm L).E.length) := by
  show (96 < (((yA 2 L).map _).take 97).length) = (96 < ((yA 2 L).map _).length)
  rw [List.length_take, List.length_map, List.length_map]; apply propext; omega
 have e2 : (16 < (kV nm L).ins.length) = (16 < (yT nm L).ins.length) := by
  show (16 < (((yA 3 L).map _).take 17).length) = (16 < ((yA 3 L).map _).length)
  rw [List.length_take, List.length_map, List.length_map]; apply propext; omega
 have e3 : (16 < (kV nm L).outs.length) = (16 < (yT nm L).outs.length) := by
  show (16 < (((yA 4 L).map _).take 17).length) = (16 < ((yA 4 L).map _).length)
  rw [List.length_take, List.length_map, List.length_map]; apply propext; omega
 unfold xD
 simp only [e1, e2, e3]
 rfl
theorem ZM (nm : List UInt8) (L : List yO) (i : Nat) : yR (kV nm L) i = yR (yT nm L) i := by
 unfold yR yX
 simp only [List.take_zero]
 rfl
theorem ZL (nm : List UInt8) (L : List yO) : yZ (kV nm L) = yZ (yT nm L) := by
 by_cases h : (xD (yT nm L)).code = 0
 ·by_cases ha : (yY (yT nm L).A.length 0 (fun i => (yR (yT nm L) i, 0)) 1).code = 0
  ·rw [dM h ha]
  have e1 : (fun i => (yR (kV nm L) i, (0 : Nat))) = fun i => (yR (yT nm L) i, 0) := by funext i; rw [ZM]
  have e2 : (kV nm L).A.length = (yT nm L).A.length := rfl
  rw [vZ, vZ]
  unfold xQ
  rw [dL]
  simp only [h, ne_eq, not_true_eq_false, if_false, e1, e2, ha, not_false_eq_true, if_true]
 rw [vZ, vZ]
 unfold xQ
 rw [dL, if_pos h, if_pos h]
theorem ZK {nm : List UInt8} {L : List yO} (h : (yZ (yT nm L)).code = 0) : kV nm L = yT nm L := by
 have hs := (uR _).1 h
 exact dM hs.head (vX _ _ fun j _ hj => hs.acts j (by omega))
end Go.Proofs.Ytgoconkleicmkaa

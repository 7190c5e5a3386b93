/- Texts of one chain. -/
import Derived.Test.YtgoconkleicmkaaPartQ
import Derived.Test.YtgoconkleicmkaaPartGraphBuilds28
set_option maxRecDepth 100000
set_option maxHeartbeats 16000000
namespace Go.Proofs.Ytgoconkleicmkaa
open Go.ChangeShapes Go.WideShapes Go.ChangeAt Go.RowKit
theorem yP {w : World} {o : Oper} {ρ : Operand -> Value} (ty : TypeId) (x y : Operand) (ho : o.op = .store ty x y) (b : Nat) (S : TypeId) (old cells : Array Value) (hx : ρ x = .pointer (some ⟨b, 0, none⟩)) (hy : ρ y = .agg cells) (hB : zN S b w old) (hi : (Try.prog.info? ty).map (·.size) = some cells.size) (hold : old.size = cells.size) (h1 : cells.toList.all (·.oneCell') = true)
 {Q : World -> Value -> Prop} (h : ∀ w', zN S b w' cells -> vA b w w' -> Q w' undef) : xJ Try.prog w Q ((execOp ρ o).run Try.prog w) := by
 have hr := run_storeVar_row (P := Try.prog) w b S ty old cells hB hi hold (by rw [<- Array.all_toList]; exact h1)
 unfold execOp
 simp only [ho, hx, hy, Instr.storeAt, Instr.sureAddr, Sem.run_bind, Sem.run_pure, Result.andThen_ok, hr]
 exact h _ (setRow_heap w b old cells S _ hB) (mB w b cells)
structure Bx (w : World) (sk gz uz : Array Value) (u : World) : Prop where
 s : zN 24 w.heap.size u sk
 g : zN 31 (w.heap.size + 1) u gz
 f : zN 34 (w.heap.size + 2) u uz
 bel : Below w.heap.size w u
theorem Bx.below {w sk gz uz} {u u' : World} (h : Bx w sk gz uz u) (hb : Below u.heap.size u u') : Bx w sk gz uz u' := ⟨h.s.below hb, h.g.below hb, h.f.below hb, h.bel.trans (hb.mono h.bel.size)⟩
theorem Bx.setG {w sk gz uz gz'} {u u' : World} (h : Bx w sk gz uz u) (hB : zN 31 (w.heap.size + 1) u' gz') (hU : vA (w.heap.size + 1) u u') : Bx w sk gz' uz u' :=
 ⟨h.s.keep (hU.block _ h.s.lt (by omega)), hB, h.f.keep (hU.block _ h.f.lt (by omega)), h.bel.trans (hU.below (Nat.le_succ _) h.bel.size)⟩
theorem Bx.setF {w sk gz uz uz'} {u u' : World} (h : Bx w sk gz uz u) (hB : zN 34 (w.heap.size + 2) u' uz') (hU : vA (w.heap.size + 2) u u') : Bx w sk gz uz' u' :=
 ⟨h.s.keep (hU.block _ h.s.lt (by omega)), h.g.keep (hU.block _ h.g.lt (by omega)), hB, h.bel.trans (hU.below (Nat.le_trans (Nat.le_succ _) (Nat.le_succ _)) h.bel.size)⟩
def xL (ns : List Int) : Prop := InR ns /\ ns.length * 8 <= 140737488351232
def oJ (w : World) (nm : List UInt8) (L : List yO) (e : Ending) (w' : World) : Prop :=
 if (yI nm L).2.1 = 0 then ∃ v1 v2 v3 v4 As Es, e = .returned (.tuple #[.agg #[.string (zW nm), v1, v2, v3, v4], .agg #[.int .i64 0, .int .i64 0]]) /\ sQ w.heap.size w' v1 v2 v3 v4 As Es (yI nm L).1.ins (yI nm L).1.outs /\ As.map Prod.fst = (yI nm L).1.A /\ Es.map Prod.fst = (yI nm L).1.E /\ (∀ p ∈ As, p.1.tag <= 255 /\ xL p.1.params) /\ (∀ p ∈ Es, xL p.1.start) /\ Below w.heap.size w w'
 else e = .returned (.tuple #[.agg #[.string ⟨#[]⟩, .slice none 0 0, .slice none 0 0, .slice none 0 0, .slice none 0 0], .agg #[.int .i64 (yI nm L).2.1, .int .i64 (yI nm L).2.2]]) /\ Below w.heap.size w w'
theorem gN : ∀ (L : List yO) (i : Nat), vQ L i = -1 -> ∀ x ∈ L, 1 <= x.kind /\ x.kind <= 4
 | [], _, _, x, hx => by cases hx
 | y :: r, i, h, x, hx => by
  have e0 : vQ (y :: r) i = if xH y = true then (i : Int) else vQ r (i + 1) := rfl
  rw [e0] at h
  by_cases hy : xH y = true
  ·rw [if_pos hy] at h; omega
  rw [if_neg hy] at h
  rcases List.mem_cons.1 hx with rfl | hx
  ·unfold xH at hy
   simp only [Bool.or_eq_true, decide_eq_true_eq, not_or] at hy
   omega
  exact gN r (i + 1) h x hx
theorem gM {L : List (yO × Value)} {k : Nat} (h : k < L.length) : (L.map Prod.fst).getD k nY = (yV L k).1 := by
 unfold yV
 rw [List.getD_eq_getElem?_getD, List.getElem?_map, List.getD_eq_getElem?_getD, List.getElem?_eq_getElem h]
 rfl
theorem pF (g : GG) : (yZ g).number <= 96 := by
 by_cases h0 : (xD g).code = 0
 ·have hh := rJ h0
  have lp : ∀ (n i : Nat) (f : Nat -> Int × Nat) (k : Nat), (yY n i f k).number <= i + n := by
   intro n
   induction n with
   | zero => intro i f k; exact Nat.zero_le _
   | succ n ih =>
    intro i f k
    have e : yY (n + 1) i f k = if (f i).1 ≠ 0 then ⟨(f i).1, k, i, (f i).2⟩ else yY n (i + 1) f k := rfl
    rw [e]
    split
    ·show i <= i + (n + 1); omega
    have := ih (i + 1) f k; omega
  rw [vZ]
  unfold xQ
  rw [if_neg (by rw [h0]; decide)]
  split
  ·have := lp g.A.length 0 (fun i => (yR g i, 0)) 1; omega
  split
  ·have := lp g.E.length 0 (xW g) 2; omega
  split
  ·have := lp g.ins.length 0 (qG g) 3; omega
  split
  ·have := lp g.outs.length 0 (wA g) 4; omega
  have := lp g.A.length 0 (wF g) 1; omega
 have e : yZ g = xD g := by unfold yZ; rw [if_pos h0]
 rw [e]
 unfold xD
 repeat' split
 all_goals (first | (show (0 : Nat) <= 96; decide) | (show (32 : Nat) <= 96; decide) | (show (96 : Nat) <= 96; decide) | (show (16 : Nat) <= 96; decide))
theorem Bx.moved {w sk gz uz} {u u' : World} (h : Bx w sk gz uz u) (hb : Below u.heap.size u u') : Bx w sk gz uz u' := h.below hb
theorem ZF {w ns L As Es Ps Os} (h : iR w ns L As Es Ps Os) : (∀ x ∈ As.map Prod.fst, x.tag <= 255 /\ xL x.params) /\ (∀ x ∈ Es.map Prod.fst, xL x.start) := by
 refine ⟨fun x hx => ?_, fun x hx => ?_⟩
 ·obtain ⟨p, hp, rfl⟩ := List.mem_map.1 hx
  obtain ⟨h1, y, c, -, h3⟩ := h.pa p hp
  exact ⟨h1, h3.fits, h3.reach⟩
 obtain ⟨p, hp, rfl⟩ := List.mem_map.1 hx
 obtain ⟨y, c, -, h3⟩ := h.pe p hp
 exact ⟨h3.fits, h3.reach⟩
theorem jX (nm : List UInt8) (a : Option Addr) (n c : Nat) (L : List (yO × Value)) (w : World) (hn : L.length = n) (h : nS w a L) (hO : bZ w L) (hl : n <= 2000000) :
 Calls Try.prog 6 #[.agg #[.string (zW nm), .slice a n c]] w (oJ w nm (L.map Prod.fst)) := by
 have ba := (((Below.refl w.heap.size w).alloc (Nat.le_refl _) (.cells #[.string (zW nm), .slice a n c] 24)).alloc (by simp) (.cells #[.string ⟨#[]⟩, .slice none 0 0, .slice none 0 0, .slice none 0 0, .slice none 0 0] 31)).alloc (by simp; omega) (.cells #[.int .i64 0, .int .i64 0] 34)
 have B0 : Hid (Bx w #[.string (zW nm), .slice a n c] #[.string ⟨#[]⟩, .slice none 0 0, .slice none 0 0, .slice none 0 0, .slice none 0 0] #[.int .i64 0, .int .i64 0] (((w.alloc (.cells #[.string (zW nm), .slice a n c] 24)).alloc (.cells #[.string ⟨#[]⟩, .slice none 0 0, .slice none 0 0, .slice none 0 0, .slice none 0 0] 31)).alloc (.cells #[.int .i64 0, .int .i64 0] 34))) := by
  have sb := ((zU 24 w #[.string (zW nm), .slice a n c]).below ((Below.refl _ _).alloc (Nat.le_refl _) (.cells #[.string ⟨#[]⟩, .slice none 0 0, .slice none 0 0, .slice none 0 0, .slice none 0 0] 31))).below ((Below.refl _ _).alloc (Nat.le_refl _) (.cells #[.int .i64 0, .int .i64 0] 34))
  have rb : zN 31 (w.heap.size + 1) (((w.alloc (.cells #[.string (zW nm), .slice a n c] 24)).alloc (.cells #[.string ⟨#[]⟩, .slice none 0 0, .slice none 0 0, .slice none 0 0, .slice none 0 0] 31)).alloc (.cells #[.int .i64 0, .int .i64 0] 34)) #[.string ⟨#[]⟩, .slice none 0 0, .slice none 0 0, .slice none 0 0, .slice none 0 0] := by
   have h3 := (zU 31 (w.alloc (.cells #[.string (zW nm), .slice a n c] 24)) #[.string ⟨#[]⟩, .slice none 0 0, .slice none 0 0, .slice none 0 0, .slice none 0 0]).below ((Below.refl _ _).alloc (Nat.le_refl _) (.cells #[.int .i64 0, .int .i64 0] 34))
   rw [World.size_alloc] at h3
   exact h3
  have gb : zN 34 (w.heap.size + 2) (((w.alloc (.cells #[.string (zW nm), .slice a n c] 24)).alloc (.cells #[.string ⟨#[]⟩, .slice none 0 0, .slice none 0 0, .slice none 0 0, .slice none 0 0] 31)).alloc (.cells #[.int .i64 0, .int .i64 0] 34)) #[.int .i64 0, .int .i64 0] := by
   have h3 := zU 34 ((w.alloc (.cells #[.string (zW nm), .slice a n c] 24)).alloc (.cells #[.string ⟨#[]⟩, .slice none 0 0, .slice none 0 0, .slice none 0 0, .slice none 0 0] 31)) #[.int .i64 0, .int .i64 0]
   rw [World.size_alloc, World.size_alloc] at h3
   exact h3
  exact ⟨sb, rb, gb, ba⟩
 have IX := zZ (eV a n c L _ hn (h.below ba) (by omega))
 have HR := zZ h
 have HO := zZ hO
 have HL := zZ hn
 have y1 := B0.out.s.cell (k := 1) rfl
 have hnI : (n : Int) <= 2000000 := by omega
 have hrg := qE (L.map Prod.fst) 0
 rw [List.length_map, hn] at hrg
 obtain ⟨ix, hix⟩ : ∃ q, vQ (L.map Prod.fst) 0 = q := ⟨_, rfl⟩
 have HIX := zZ hix
 rw [hix] at IX hrg
 clear ba h hO hn hix
 rcases hrg with hrg | hrg
 ·subst hrg
  have LU : Hid (∀ U, Below w.heap.size w U -> Calls Try.prog 15 #[.agg #[.string (zW nm), .slice a n c]] U (VB U nm (L.map Prod.fst))) := fun U hb => eU nm a n c L U HL.out (HR.out.below hb) (HO.out.below hb) hl (fun p hp => gN _ _ HIX.out p.1 (List.mem_map_of_mem hp))
  have HBS : Hid (yI nm (L.map Prod.fst) = if (yZ (yT nm (L.map Prod.fst))).code ≠ 0 then (YE, (yZ (yT nm (L.map Prod.fst))).code, xB (L.map Prod.fst) 0 (yZ (yT nm (L.map Prod.fst)))) else (yT nm (L.map Prod.fst), 0, 0)) := by
   show _ = _
   unfold yI
   rw [HIX.out, if_neg (by decide)]
  obtain ⟨⟨fc, fk, fnr, fs⟩, hff⟩ : ∃ f, yZ (yT nm (L.map Prod.fst)) = f := ⟨_, rfl⟩
  have HNR : fnr <= 96 := by have q := pF (yT nm (L.map Prod.fst)); rw [hff] at q; exact q
  have PL : Hid (∀ U, Below w.heap.size w U -> Calls Try.prog 17 #[.agg #[.int .i64 fc, .int .u8 (fk : Int), .int .i64 (fnr : Int), .int .u8 (fs : Int)], .slice a n c] U fun e w' => e = .returned (.int .i64 (xB (L.map Prod.fst) 0 ⟨fc, fk, fnr, fs⟩)) /\ Below U.heap.size U w') := fun U hb => gS ⟨fc, fk, fnr, fs⟩ a n c L U HL.out (HR.out.below hb) (by omega) (by show fnr <= 1000; omega)
  rw [hff] at HBS
  have HFF := zZ hff
  clear hff
  go_enter Try.func6, Try.ntmps6
  go_upto_region 1 with fail
  generalize ((w.alloc (.cells #[.string (zW nm), .slice a n c] 24)).alloc (.cells #[.string ⟨#[]⟩, .slice none 0 0, .slice none 0 0, .slice none 0 0, .slice none 0 0] 31)).alloc (.cells #[.int .i64 0, .int .i64 0] 34) = W0 at *
  go_upto_region 4 with (go_at_call 13; (with_reducible refine IX.out.mono ?_); rintro e w1 ⟨rfl, b1⟩; have B1 := zZ (B0.out.below b1); clear b1 y1)
  have y0 : w1.cell? ⟨w.heap.size, 0, none⟩ = some (.string (zW nm)) := B1.out.s.cell rfl
  have y1 : w1.cell? ⟨w.heap.size, 1, none⟩ = some (.slice a n c) := B1.out.s.cell rfl
  have LU1 := zZ (LU.out w1 B1.out.bel)
  clear LU IX B0
  go_upto_region 5 with (go_at_call 15; (with_reducible refine LU1.out.mono ?_); rintro e w2 ⟨v1, v2, v3, v4, As, Es, Ps, Os, rfl, hG, hL, b2⟩; obtain ⟨x1, d1, rfl⟩ := zC hG.r1; obtain ⟨x2, d2, rfl⟩ := zC hG.r2; obtain ⟨x3, d3, rfl⟩ := zC hG.r3; obtain ⟨x4, d4, rfl⟩ := zC hG.r4; have HGR := zZ hG; have HLL := zZ hL; have B2 := zZ b2; clear hG hL b2 y0 y1)
  have bv := (Below.refl w2.heap.size w2).alloc (Nat.le_refl _) (.cells #[.string (zW nm), .slice x1 As.length d1, .slice x2 Es.length d2, .slice x3 Ps.length d3, .slice x4 Os.length d4] 31)
  have BXV := zZ ((B1.out.below B2.out).below bv)
  have G5 := zZ (zU 31 w2 #[.string (zW nm), .slice x1 As.length d1, .slice x2 Es.length d2, .slice x3 Ps.length d3, .slice x4 Os.length d4])
  have z0 : (w2.alloc (.cells #[.string (zW nm), .slice x1 As.length d1, .slice x2 Es.length d2, .slice x3 Ps.length d3, .slice x4 Os.length d4] 31)).cell? ⟨w2.heap.size, 0, none⟩ = some (.string (zW nm)) := G5.out.cell rfl
  have z1 : (w2.alloc (.cells #[.string (zW nm), .slice x1 As.length d1, .slice x2 Es.length d2, .slice x3 Ps.length d3, .slice x4 Os.length d4] 31)).cell? ⟨w2.heap.size, 1, none⟩ = some (.slice x1 As.length d1) := G5.out.cell rfl
  have z2 : (w2.alloc (.cells #[.string (zW nm), .slice x1 As.length d1, .slice x2 Es.length d2, .slice x3 Ps.length d3, .slice x4 Os.length d4] 31)).cell? ⟨w2.heap.size, 2, none⟩ = some (.slice x2 Es.length d2) := G5.out.cell rfl
  have z3 : (w2.alloc (.cells #[.string (zW nm), .slice x1 As.length d1, .slice x2 Es.length d2, .slice x3 Ps.length d3, .slice x4 Os.length d4] 31)).cell? ⟨w2.heap.size, 3, none⟩ = some (.slice x3 Ps.length d3) := G5.out.cell rfl
  have z4 : (w2.alloc (.cells #[.string (zW nm), .slice x1 As.length d1, .slice x2 Es.length d2, .slice x3 Ps.length d3, .slice x4 Os.length d4] 31)).cell? ⟨w2.heap.size, 4, none⟩ = some (.slice x4 Os.length d4) := G5.out.cell rfl
  have hgg : (⟨nm, As.map Prod.fst, Es.map Prod.fst, Ps, Os⟩ : GG) = yT nm (L.map Prod.fst) := by
   have q := HLL.out
   unfold yT ZN
   rw [<- q.a, <- q.e, <- q.i, <- q.o]
  have HGG := zZ hgg
  have hlen := HLL.out.len
  rw [List.length_map, HL.out] at hlen
  have FF : Hid (Calls Try.prog 16 #[.agg #[.string (zW nm), .slice x1 As.length d1, .slice x2 Es.length d2, .slice x3 Ps.length d3, .slice x4 Os.length d4]] (w2.alloc (.cells #[.string (zW nm), .slice x1 As.length d1, .slice x2 Es.length d2, .slice x3 Ps.length d3, .slice x4 Os.length d4] 31)) fun e w' => e = .returned (.agg #[.int .i64 fc, .int .u8 (fk : Int), .int .i64 (fnr : Int), .int .u8 (fs : Int)]) /\ Below (w2.alloc (.cells #[.string (zW nm), .slice x1 As.length d1, .slice x2 Es.length d2, .slice x3 Ps.length d3, .slice x4 Os.length d4] 31)).heap.size (w2.alloc (.cells #[.string (zW nm), .slice x1 As.length d1, .slice x2 Es.length d2, .slice x3 Ps.length d3, .slice x4 Os.length d4] 31)) w') := by
   have gr := HGR.out.keep (w' := w2.alloc (.cells #[.string (zW nm), .slice x1 As.length d1, .slice x2 Es.length d2, .slice x3 Ps.length d3, .slice x4 Os.length d4] 31)) fun k _ hk => bv.block k hk
   have b12 := B2.out.trans (bv.mono B2.out.size)
   have ga := nH gr.r1 (fun p hp => by obtain ⟨p1, x, c, p2, p3⟩ := HLL.out.pa p hp; exact ⟨p1, x, c, p2, p3.below b12⟩)
   have ge := nG gr.r2 (fun p hp => by obtain ⟨x, c, p2, p3⟩ := HLL.out.pe p hp; exact ⟨x, c, p2, p3.below b12⟩)
   have r := qP ⟨nm, As.map Prod.fst, Es.map Prod.fst, Ps, Os⟩ x1 x2 x3 x4 d1 d2 d3 d4 (w2.alloc (.cells #[.string (zW nm), .slice x1 As.length d1, .slice x2 Es.length d2, .slice x3 Ps.length d3, .slice x4 Os.length d4] 31)) ga.at ge.at (sR gr.r3) (sR gr.r4) (by show (As.map Prod.fst).length <= _; rw [List.length_map]; omega) (by show (Es.map Prod.fst).length <= _; rw [List.length_map]; omega) (by show Ps.length <= _; omega) (by show Os.length <= _; omega)
   rw [hgg, HFF.out] at r
   rw [<- hgg] at r
   simp only [List.length_map] at r
   exact r
  have BV2 := zZ bv
  clear bv hgg LU1
  generalize w2.alloc (.cells #[.string (zW nm), .slice x1 As.length d1, .slice x2 Es.length d2, .slice x3 Ps.length d3, .slice x4 Os.length d4] 31) = V2 at *
  go_upto_region 6 with (first
   | (refine zM _ rfl 52 (.tmp 6) (.tmp 23) rfl rfl w3.heap.size 52 _ _ rfl rfl (zU 52 w3 #[.int .i64 0, .int .u8 0, .int .i64 0, .int .u8 0]) sizF rfl rfl ?_; intro w4 hN hU; have N4 := zZ hN; have U4 := zZ hU; clear hN hU)
   | (go_at_call 16; (with_reducible refine FF.out.mono ?_); rintro e w3 ⟨rfl, b3⟩; have B3 := zZ b3; clear b3 z0 z1 z2 z3 z4))
  have B34 : Hid (Below V2.heap.size V2 w4) := by
   have q := B3.out.alloc B3.out.size (.cells #[.int .i64 0, .int .u8 0, .int .i64 0, .int .u8 0] 52)
   exact q.trans (U4.out.below B3.out.size q.size)
  have B6 := zZ (BXV.out.below B34.out)
  have G6 := zZ (G5.out.below B34.out)
  have F6 := N4
  obtain ⟨b6, hb6⟩ : ∃ q, w3.heap.size = q := ⟨_, rfl⟩
  have N61 : Hid (b6 ≠ w.heap.size + 1) := by
   have h1 := BXV.out.g.lt
   have h2 := B3.out.size
   show _ ≠ _
   omega
  have N62 : Hid (b6 ≠ w.heap.size + 2) := by
   have h1 := BXV.out.f.lt
   have h2 := B3.out.size
   show _ ≠ _
   omega
  rw [hb6] at F6
  have f0 : w4.cell? ⟨b6, 0, none⟩ = some (.int .i64 fc) := F6.out.cell rfl
  clear FF B3 U4 N4
  by_cases hfc : fc = 0
  ·subst hfc
   have hBS : yI nm (L.map Prod.fst) = (yT nm (L.map Prod.fst), 0, 0) := by rw [HBS.out, if_neg (by decide)]
   have hso := rJ ((uR (yT nm (L.map Prod.fst))).1 (by rw [HFF.out])).head
   rw [<- HGG.out] at hso
   have ha32 : As.length <= 32 := by have q : (As.map Prod.fst).length <= 32 := hso.2.2.1; rw [List.length_map] at q; exact q
   have he96 : Es.length <= 96 := by have q : (Es.map Prod.fst).length <= 96 := hso.2.2.2.1; rw [List.length_map] at q; exact q
   have B14 : Hid (Below w1.heap.size w1 w4) := by
    have q1 := B2.out
    have q2 : Below w2.heap.size w2 V2 := BV2.out
    exact (q1.trans (q2.mono q1.size)).trans (B34.out.mono (Nat.le_trans q1.size q2.size))
   have OW : Hid (Calls Try.prog 18 #[.agg #[.string (zW nm), .slice x1 As.length d1, .slice x2 Es.length d2, .slice x3 Ps.length d3, .slice x4 Os.length d4]] w4 (OwnE w1 nm (.slice x1 As.length d1) (.slice x2 Es.length d2) (.slice x3 Ps.length d3) (.slice x4 Os.length d4) As Es Ps Os)) :=
    jB nm _ _ _ _ As Es Ps Os w1 w4 B14.out (HGR.out.keep fun k _ hk => (B34.out.block k (Nat.lt_of_lt_of_le hk BV2.out.size)).trans (BV2.out.block k hk)) HLL.out.pa HLL.out.pe (by omega) (by omega)
   have z0 : w4.cell? ⟨w2.heap.size, 0, none⟩ = some (.string (zW nm)) := G6.out.cell rfl
   have z1 : w4.cell? ⟨w2.heap.size, 1, none⟩ = some (.slice x1 As.length d1) := G6.out.cell rfl
   have z2 : w4.cell? ⟨w2.heap.size, 2, none⟩ = some (.slice x2 Es.length d2) := G6.out.cell rfl
   have z3 : w4.cell? ⟨w2.heap.size, 3, none⟩ = some (.slice x3 Ps.length d3) := G6.out.cell rfl
   have z4 : w4.cell? ⟨w2.heap.size, 4, none⟩ = some (.slice x4 Os.length d4) := G6.out.cell rfl
   rw [hb6]
   go_wp2_with (first
    | (refine zM _ rfl 34 (.tmp 3) (.tmp 37) rfl rfl (w.heap.size + 2) 34 _ _ rfl rfl BY.out.f kY rfl rfl ?_; intro w8 hN hU; have BZ := zZ (BY.out.setF hN hU); have U8 := zZ hU; clear hN hU)
    | (refine zM _ rfl 31 (.tmp 2) (.tmp 36) rfl rfl (w.heap.size + 1) 31 _ _ rfl rfl B7.out.g qZ rfl rfl ?_; intro w6 hN hU; have BY := zZ (B7.out.setG hN hU); have U6 := zZ hU; clear hN hU)
    | (go_at_call 18; (with_reducible refine OW.out.mono ?_); rintro e w5 ⟨As', Es', rfl, hW, hfa, hfe, b5⟩; have HW := zZ hW; have HFA := zZ hfa; have HFE := zZ hfe; have B5 := zZ b5; have B7 := zZ (Bx.moved B1.out b5); clear hW hfa hfe b5 z0 z1 z2 z3 z4))
   have r0 : w8.cell? ⟨w.heap.size + 1, 0, none⟩ = some (.string (zW nm)) := BZ.out.g.cell rfl
   have r1 : w8.cell? ⟨w.heap.size + 1, 1, none⟩ = some (.slice x1 As.length d1) := BZ.out.g.cell rfl
   have r2 : w8.cell? ⟨w.heap.size + 1, 2, none⟩ = some (.slice x2 Es.length d2) := BZ.out.g.cell rfl
   have r3 : w8.cell? ⟨w.heap.size + 1, 3, none⟩ = some (.slice x3 Ps.length d3) := BZ.out.g.cell rfl
   have r4 : w8.cell? ⟨w.heap.size + 1, 4, none⟩ = some (.slice x4 Os.length d4) := BZ.out.g.cell rfl
   have u0 : w8.cell? ⟨w.heap.size + 2, 0, none⟩ = some (.int .i64 0) := BZ.out.f.cell rfl
   have u1 : w8.cell? ⟨w.heap.size + 2, 1, none⟩ = some (.int .i64 0) := BZ.out.f.cell rfl
   refine bodyPost_ret (v := .tuple #[.agg #[.string (zW nm), .slice x1 As.length d1, .slice x2 Es.length d2, .slice x3 Ps.length d3, .slice x4 Os.length d4], .agg #[.int .i64 0, .int .i64 0]]) (by simp [results, Try.results6, go_sem, r0, r1, r2, r3, r4, u0, u1]) rfl ?_
   unfold oJ
   rw [hBS, if_pos rfl, <- HGG.out]
   have hw1 : w.heap.size + 2 < w1.heap.size := B1.out.f.lt
   have hnums := ZF HLL.out
   refine ⟨_, _, _, _, As', Es', rfl, ?_, HFA.out, HFE.out, fun p hp => ?_, fun p hp => ?_, BZ.out.bel⟩
   ·exact (HW.out.keep fun k h1 h2 => ((U8.out.block k (Nat.lt_of_lt_of_le h2 U6.out.size) (Nat.ne_of_gt (Nat.lt_of_lt_of_le hw1 h1))).trans (U6.out.block k h2 (Nat.ne_of_gt (Nat.lt_of_lt_of_le (Nat.lt_trans (Nat.lt_succ_self _) hw1) h1))))).mono B1.out.bel.size
   ·exact hnums.1 p.1 (by rw [<- HFA.out]; exact List.mem_map_of_mem hp)
   exact hnums.2 p.1 (by rw [<- HFE.out]; exact List.mem_map_of_mem hp)
  have hfb : (fc != 0) = true := by simpa using hfc
  have hBS : yI nm (L.map Prod.fst) = (YE, fc, xB (L.map Prod.fst) 0 ⟨fc, fk, fnr, fs⟩) := by rw [HBS.out, if_pos hfc]
  have HB9 := zZ hBS
  clear hBS HGR HLL HGG HBS
  generalize xB (L.map Prod.fst) 0 ⟨fc, fk, fnr, fs⟩ = at9 at *
  rw [hb6]
  clear hb6
  go_upto_region 7 with fail
  refine zB [8, 9] (fun d i u z => match i with
   | 0 => z = .agg #[.string ⟨#[]⟩, .slice none 0 0, .slice none 0 0, .slice none 0 0, .slice none 0 0]
   | 1 => z = .pointer (some ⟨b6, 0, none⟩)
   | 2 => z = .int .i64 fc
   | 3 => z = .agg #[.int .i64 fc, .int .u8 (fk : Int), .int .i64 (fnr : Int), .int .u8 (fs : Int)]
   | 4 => z = .pointer (some ⟨w.heap.size, 1, none⟩)
   | 5 => z = .slice a n c
   | 6 => z = .int .i64 at9
   | 7 => z = .agg #[.int .i64 fc, .int .i64 at9]
   | 8 => True
   | 9 => True
   | _ => True) (fun d u => (d 9 = true -> Bx w #[.string (zW nm), .slice a n c] #[.string ⟨#[]⟩, .slice none 0 0, .slice none 0 0, .slice none 0 0, .slice none 0 0] #[.int .i64 fc, .int .i64 at9] u) /\ (d 9 = false -> Bx w #[.string (zW nm), .slice a n c] #[.string ⟨#[]⟩, .slice none 0 0, .slice none 0 0, .slice none 0 0, .slice none 0 0] #[.int .i64 0, .int .i64 0] u) /\ zN 52 b6 u #[.int .i64 fc, .int .u8 (fk : Int), .int .i64 (fnr : Int), .int .u8 (fs : Int)]) (by kernel_rfl) (by kernel_rfl) (by kernel_rfl) ?_ ?_ ?_ ?_ ?_ ?_ (by kernel_rfl)
  ·intro d i w v w' h hb
   match i, h with
   | 0, h => exact h
   | 1, h => exact h
   | 2, h => exact h
   | 3, h => exact h
   | 4, h => exact h
   | 5, h => exact h
   | 6, h => exact h
   | 7, h => exact h
   | 8, h => exact h
   | 9, h => exact h
   | _ + 10, _ => trivial
  ·intro d u u' h hb
   exact ⟨fun e => (h.1 e).below hb, fun e => (h.2.1 e).below hb, h.2.2.below hb⟩
  ·exact ⟨fun e => absurd e (by decide), fun _ => B6.out, F6.out⟩
  ·intro d i o ρ w' hm ho hf hg hC hcs hfs hfr zY
   match i, hm, ho, hf, hg, hfr, zY with
   | 0, _, ho, hf, hg, hfr, zY =>
    simp only [qS] at ho
    subst ho
    refine ⟨fun _ => ?_, qF⟩
    simp [go_sem]
    exact qB
   | 1, _, ho, hf, hg, hfr, zY =>
    simp only [qS] at ho
    subst ho
    refine ⟨fun _ => ?_, qF⟩
    have ts : ρ (.tmp 6) = .pointer (some ⟨b6, 0, none⟩) := hfr 6 (by kernel_rfl)
    simp [go_sem, ts]
    exact qB
   | 2, _, ho, hf, hg, hfr, zY =>
    simp only [qS] at ho
    subst ho
    refine ⟨fun _ => ?_, qF⟩
    have cc : w'.cell? ⟨b6, 0, none⟩ = some (.int .i64 fc) := hC.2.2.cell rfl
    have d0 : ρ (.tmp 28) = .pointer (some ⟨b6, 0, none⟩) := zY 1 28 (by kernel_rfl) (by kernel_rfl)
    simp [go_sem, d0, cc]
    exact qB
   | 3, _, ho, hf, hg, hfr, zY =>
    simp only [qS] at ho
    subst ho
    refine ⟨fun _ => ?_, qF⟩
    have ts : ρ (.tmp 6) = .pointer (some ⟨b6, 0, none⟩) := hfr 6 (by kernel_rfl)
    have cc0 : w'.cell? ⟨b6, 0, none⟩ = some (.int .i64 fc) := hC.2.2.cell rfl
    have cc1 : w'.cell? ⟨b6, 1, none⟩ = some (.int .u8 (fk : Int)) := hC.2.2.cell rfl
    have cc2 : w'.cell? ⟨b6, 2, none⟩ = some (.int .i64 (fnr : Int)) := hC.2.2.cell rfl
    have cc3 : w'.cell? ⟨b6, 3, none⟩ = some (.int .u8 (fs : Int)) := hC.2.2.cell rfl
    simp [go_sem, ts, cc0, cc1, cc2, cc3]
    exact qB
   | 4, _, ho, hf, hg, hfr, zY =>
    simp only [qS] at ho
    subst ho
    refine ⟨fun _ => ?_, qF⟩
    have ts : ρ (.tmp 1) = .pointer (some ⟨w.heap.size, 0, none⟩) := hfr 1 (by kernel_rfl)
    simp [go_sem, ts]
    exact qB
   | 5, _, ho, hf, hg, hfr, zY =>
    simp only [qS] at ho
    subst ho
    refine ⟨fun _ => ?_, qF⟩
    have bx : Bx w #[.string (zW nm), .slice a n c] #[.string ⟨#[]⟩, .slice none 0 0, .slice none 0 0, .slice none 0 0, .slice none 0 0] #[.int .i64 0, .int .i64 0] w' := hC.2.1 (hf 9 (by decide) (by kernel_rfl))
    have cc : w'.cell? ⟨w.heap.size, 1, none⟩ = some (.slice a n c) := bx.s.cell rfl
    have d0 : ρ (.tmp 31) = .pointer (some ⟨w.heap.size, 1, none⟩) := zY 4 31 (by kernel_rfl) (by kernel_rfl)
    simp [go_sem, d0, cc]
    exact qB
   | 6, _, ho, hf, hg, hfr, zY =>
    simp only [qS] at ho
    subst ho
    refine ⟨fun _ => ?_, qF⟩
    have bx : Bx w #[.string (zW nm), .slice a n c] #[.string ⟨#[]⟩, .slice none 0 0, .slice none 0 0, .slice none 0 0, .slice none 0 0] #[.int .i64 0, .int .i64 0] w' := hC.2.1 (hf 9 (by decide) (by kernel_rfl))
    have t0 : ρ (.tmp 30) = .agg #[.int .i64 fc, .int .u8 (fk : Int), .int .i64 (fnr : Int), .int .u8 (fs : Int)] := zY 3 30 (by kernel_rfl) (by kernel_rfl)
    have t1 : ρ (.tmp 32) = .slice a n c := zY 5 32 (by kernel_rfl) (by kernel_rfl)
    simp [go_sem, t0, t1, hfs]
    exact ⟨rfl, (PL.out w' bx.bel).mono fun e w'' hh => ⟨_, hh.1, hh.2, rfl⟩⟩
   | 7, _, ho, hf, hg, hfr, zY =>
    simp only [qS] at ho
    subst ho
    refine ⟨fun _ => ?_, qF⟩
    have d0 : ρ (.tmp 29) = .int .i64 fc := zY 2 29 (by kernel_rfl) (by kernel_rfl)
    have d1 : ρ (.tmp 33) = .int .i64 at9 := zY 6 33 (by kernel_rfl) (by kernel_rfl)
    simp [go_sem, d0, d1]
    exact qB
   | 8, hm, _, _, _, _, _ => exact qD hm
   | 9, hm, _, _, _, _, _ => exact qD hm
   | n + 10, _, ho, _, _, _, _ => simp at ho
  ·intro d i o ρ w' hm ho h0 hf hg hC hcs hfs hfr zY
   match i, hm, ho, h0, hf, hg, hfr, zY with
   | 0, hm, _, _, _, _, _, _ => exact qD hm
   | 1, hm, _, _, _, _, _, _ => exact qD hm
   | 2, hm, _, _, _, _, _, _ => exact qD hm
   | 3, hm, _, _, _, _, _, _ => exact qD hm
   | 4, hm, _, _, _, _, _, _ => exact qD hm
   | 5, hm, _, _, _, _, _, _ => exact qD hm
   | 6, hm, _, _, _, _, _, _ => exact qD hm
   | 7, hm, _, _, _, _, _, _ => exact qD hm
   | 8, _, ho, h0, hf, hg, hfr, zY =>
    simp only [qS] at ho
    subst ho
    refine ⟨rfl, ?_⟩
    have t0 : ρ (.tmp 27) = .agg #[.string ⟨#[]⟩, .slice none 0 0, .slice none 0 0, .slice none 0 0, .slice none 0 0] := zY 0 27 (by kernel_rfl) (by kernel_rfl)
    have tp : ρ (.tmp 2) = .pointer (some ⟨w.heap.size + 1, 0, none⟩) := hfr 2 (by kernel_rfl)
    refine yP 31 (.tmp 2) (.tmp 27) rfl (w.heap.size + 1) 31 _ _ tp t0 (hC.2.1 (hf 9 (by decide) (by kernel_rfl))).g qZ rfl rfl ?_
    intro w8 hB8 hU8
    refine ⟨⟨fun e => absurd ((hf 9 (by decide) (by kernel_rfl)).symm.trans (by simpa [yN] using e)) (by decide), fun _ => (hC.2.1 (hf 9 (by decide) (by kernel_rfl))).setG hB8 hU8, hC.2.2.keep (hU8.block _ hC.2.2.lt N61.out)⟩, fun h => absurd rfl h, ?_⟩
    intro j t _ hs
    match j, hs with
    | 0, hs => exact hs
    | 1, hs => exact hs
    | 2, hs => exact hs
    | 3, hs => exact hs
    | 4, hs => exact hs
    | 5, hs => exact hs
    | 6, hs => exact hs
    | 7, hs => exact hs
    | 8, hs => exact hs
    | 9, hs => exact hs
    | _ + 10, _ => trivial
   | 9, _, ho, h0, hf, hg, hfr, zY =>
    simp only [qS] at ho
    subst ho
    refine ⟨rfl, ?_⟩
    have t0 : ρ (.tmp 34) = .agg #[.int .i64 fc, .int .i64 at9] := zY 7 34 (by kernel_rfl) (by kernel_rfl)
    have tp : ρ (.tmp 3) = .pointer (some ⟨w.heap.size + 2, 0, none⟩) := hfr 3 (by kernel_rfl)
    refine yP 34 (.tmp 3) (.tmp 34) rfl (w.heap.size + 2) 34 _ _ tp t0 (hC.2.1 h0).f kY rfl rfl ?_
    intro w8 hB8 hU8
    refine ⟨⟨fun _ => (hC.2.1 h0).setF hB8 hU8, fun e => absurd e (by simp [yN]), hC.2.2.keep (hU8.block _ hC.2.2.lt N62.out)⟩, fun h => absurd rfl h, ?_⟩
    intro j t _ hs
    match j, hs with
    | 0, hs => exact hs
    | 1, hs => exact hs
    | 2, hs => exact hs
    | 3, hs => exact hs
    | 4, hs => exact hs
    | 5, hs => exact hs
    | 6, hs => exact hs
    | 7, hs => exact hs
    | 8, hs => exact hs
    | 9, hs => exact hs
    | _ + 10, _ => trivial
   | n + 10, _, ho, _, _, _, _, _ => simp at ho
  intro V w9 hC9 hS
  simp only [yL, wJ]
  simp only [Act.put, qU]
  clear hS
  have BZ := zZ (hC9.1 rfl)
  clear hC9
  go_wp2
  have r0 : w9.cell? ⟨w.heap.size + 1, 0, none⟩ = some (.string ⟨#[]⟩) := BZ.out.g.cell rfl
  have r1 : w9.cell? ⟨w.heap.size + 1, 1, none⟩ = some (.slice none 0 0) := BZ.out.g.cell rfl
  have r2 : w9.cell? ⟨w.heap.size + 1, 2, none⟩ = some (.slice none 0 0) := BZ.out.g.cell rfl
  have r3 : w9.cell? ⟨w.heap.size + 1, 3, none⟩ = some (.slice none 0 0) := BZ.out.g.cell rfl
  have r4 : w9.cell? ⟨w.heap.size + 1, 4, none⟩ = some (.slice none 0 0) := BZ.out.g.cell rfl
  have u0 : w9.cell? ⟨w.heap.size + 2, 0, none⟩ = some (.int .i64 fc) := BZ.out.f.cell rfl
  have u1 : w9.cell? ⟨w.heap.size + 2, 1, none⟩ = some (.int .i64 at9) := BZ.out.f.cell rfl
  refine bodyPost_ret (v := .tuple #[.agg #[.string ⟨#[]⟩, .slice none 0 0, .slice none 0 0, .slice none 0 0, .slice none 0 0], .agg #[.int .i64 fc, .int .i64 at9]]) (by simp [results, Try.results6, go_sem, r0, r1, r2, r3, r4, u0, u1]) rfl ?_
  unfold oJ
  rw [HB9.out, if_neg (by exact hfc)]
  exact ⟨rfl, BZ.out.bel⟩
 obtain ⟨k, rfl⟩ : ∃ k : Nat, ix = (k : Int) := ⟨ix.toNat, by omega⟩
 have hk : k < n := by omega
 have hki : (k : Int) < (n : Int) := by omega
 have hk0 : (0 : Int) <= (k : Int) := by omega
 rcases HR.out.lie with e | ⟨gb, off, rfl, hc⟩
 ·have := HL.out; rw [e] at this; simp at this; omega
 obtain ⟨pl, hpl⟩ : ∃ q, (yV L k).1.place = q := ⟨_, rfl⟩
 have HPL := zZ (hc k (by have := HL.out; omega)).c10
 rw [hpl] at HPL
 have hBS : yI nm (L.map Prod.fst) = (YE, 1, pl) := by
  unfold yI
  rw [HIX.out, if_pos hk0, Int.toNat_natCast, gM (by have := HL.out; omega), hpl]
 have HB9 := zZ hBS
 clear hBS hpl hc
 go_enter Try.func6, Try.ntmps6
 go_upto_region 1 with fail
 generalize ((w.alloc (.cells #[.string (zW nm), .slice (some ⟨gb, off, none⟩) n c] 24)).alloc (.cells #[.string ⟨#[]⟩, .slice none 0 0, .slice none 0 0, .slice none 0 0, .slice none 0 0] 31)).alloc (.cells #[.int .i64 0, .int .i64 0] 34) = W0 at *
 go_upto_region 3 with (go_at_call 13; (with_reducible refine IX.out.mono ?_); rintro e w1 ⟨rfl, b1⟩; have B1 := zZ (B0.out.below b1); clear b1 y1)
 clear IX B0
 refine zB [8, 9] (fun d i u z => match i with
  | 0 => z = .agg #[.string ⟨#[]⟩, .slice none 0 0, .slice none 0 0, .slice none 0 0, .slice none 0 0]
  | 1 => z = .pointer (some ⟨w.heap.size, 1, none⟩)
  | 2 => z = .slice (some ⟨gb, off, none⟩) n c
  | 3 => z = .int .i64 (k : Int)
  | 4 => z = .pointer (some ⟨gb, off + k * 11, none⟩)
  | 5 => z = .pointer (some ⟨gb, off + k * 11 + 10, none⟩)
  | 6 => z = .int .i64 pl
  | 7 => z = .agg #[.int .i64 1, .int .i64 pl]
  | 8 => True
  | 9 => True
  | _ => True) (fun d u => (d 9 = true -> Bx w #[.string (zW nm), .slice (some ⟨gb, off, none⟩) n c] #[.string ⟨#[]⟩, .slice none 0 0, .slice none 0 0, .slice none 0 0, .slice none 0 0] #[.int .i64 1, .int .i64 pl] u) /\ (d 9 = false -> Bx w #[.string (zW nm), .slice (some ⟨gb, off, none⟩) n c] #[.string ⟨#[]⟩, .slice none 0 0, .slice none 0 0, .slice none 0 0, .slice none 0 0] #[.int .i64 0, .int .i64 0] u)) (by kernel_rfl) (by kernel_rfl) (by kernel_rfl) ?_ ?_ ?_ ?_ ?_ ?_ (by kernel_rfl)
 ·intro d i w v w' h hb
  match i, h with
  | 0, h => exact h
  | 1, h => exact h
  | 2, h => exact h
  | 3, h => exact h
  | 4, h => exact h
  | 5, h => exact h
  | 6, h => exact h
  | 7, h => exact h
  | 8, h => exact h
  | 9, h => exact h
  | _ + 10, _ => trivial
 ·intro d u u' h hb
  exact ⟨fun e => (h.1 e).below hb, fun e => (h.2 e).below hb⟩
 ·exact ⟨fun e => absurd e (by decide), fun _ => B1.out⟩
 ·intro d i o ρ w' hm ho hf hg hC hcs hfs hfr zY
  match i, hm, ho, hf, hg, hfr, zY with
  | 0, _, ho, hf, hg, hfr, zY =>
   simp only [qS] at ho
   subst ho
   refine ⟨fun _ => ?_, qF⟩
   simp [go_sem]
   exact qB
  | 1, _, ho, hf, hg, hfr, zY =>
   simp only [qS] at ho
   subst ho
   refine ⟨fun _ => ?_, qF⟩
   have ts : ρ (.tmp 1) = .pointer (some ⟨w.heap.size, 0, none⟩) := hfr 1 (by kernel_rfl)
   simp [go_sem, ts]
   exact qB
  | 2, _, ho, hf, hg, hfr, zY =>
   simp only [qS] at ho
   subst ho
   refine ⟨fun _ => ?_, qF⟩
   have bx : Bx w #[.string (zW nm), .slice (some ⟨gb, off, none⟩) n c] #[.string ⟨#[]⟩, .slice none 0 0, .slice none 0 0, .slice none 0 0, .slice none 0 0] #[.int .i64 0, .int .i64 0] w' := hC.2 (hf 9 (by decide) (by kernel_rfl))
   have cc : w'.cell? ⟨w.heap.size, 1, none⟩ = some (.slice (some ⟨gb, off, none⟩) n c) := bx.s.cell rfl
   have d0 : ρ (.tmp 13) = .pointer (some ⟨w.heap.size, 1, none⟩) := zY 1 13 (by kernel_rfl) (by kernel_rfl)
   simp [go_sem, d0, cc]
   exact qB
  | 3, _, ho, hf, hg, hfr, zY =>
   simp only [qS] at ho
   subst ho
   refine ⟨fun _ => ?_, qF⟩
   have ts : ρ (.tmp 4) = .int .i64 (k : Int) := hfr 4 (by kernel_rfl)
   simp [go_sem, ts]
   exact qB
  | 4, _, ho, hf, hg, hfr, zY =>
   simp only [qS] at ho
   subst ho
   refine ⟨fun _ => ?_, qF⟩
   have d0 : ρ (.tmp 14) = .slice (some ⟨gb, off, none⟩) n c := zY 2 14 (by kernel_rfl) (by kernel_rfl)
   have d1 : ρ (.tmp 15) = .int .i64 (k : Int) := zY 3 15 (by kernel_rfl) (by kernel_rfl)
   simp [go_sem, d0, d1, hki]
   exact qB
  | 5, _, ho, hf, hg, hfr, zY =>
   simp only [qS] at ho
   subst ho
   refine ⟨fun _ => ?_, qF⟩
   have d0 : ρ (.tmp 16) = .pointer (some ⟨gb, off + k * 11, none⟩) := zY 4 16 (by kernel_rfl) (by kernel_rfl)
   simp [go_sem, d0]
   exact qB
  | 6, _, ho, hf, hg, hfr, zY =>
   simp only [qS] at ho
   subst ho
   refine ⟨fun _ => ?_, qF⟩
   have bx : Bx w #[.string (zW nm), .slice (some ⟨gb, off, none⟩) n c] #[.string ⟨#[]⟩, .slice none 0 0, .slice none 0 0, .slice none 0 0, .slice none 0 0] #[.int .i64 0, .int .i64 0] w' := hC.2 (hf 9 (by decide) (by kernel_rfl))
   have cc : w'.cell? ⟨gb, off + k * 11 + 10, none⟩ = some (.int .i64 pl) := zX bx.bel HPL.out
   have d0 : ρ (.tmp 17) = .pointer (some ⟨gb, off + k * 11 + 10, none⟩) := zY 5 17 (by kernel_rfl) (by kernel_rfl)
   simp [go_sem, d0, cc]
   exact qB
  | 7, _, ho, hf, hg, hfr, zY =>
   simp only [qS] at ho
   subst ho
   refine ⟨fun _ => ?_, qF⟩
   have d0 : ρ (.tmp 18) = .int .i64 pl := zY 6 18 (by kernel_rfl) (by kernel_rfl)
   simp [go_sem, d0, hcs]
   exact qB
  | 8, hm, _, _, _, _, _ => exact qD hm
  | 9, hm, _, _, _, _, _ => exact qD hm
  | n + 10, _, ho, _, _, _, _ => simp at ho
 ·intro d i o ρ w' hm ho h0 hf hg hC hcs hfs hfr zY
  match i, hm, ho, h0, hf, hg, hfr, zY with
  | 0, hm, _, _, _, _, _, _ => exact qD hm
  | 1, hm, _, _, _, _, _, _ => exact qD hm
  | 2, hm, _, _, _, _, _, _ => exact qD hm
  | 3, hm, _, _, _, _, _, _ => exact qD hm
  | 4, hm, _, _, _, _, _, _ => exact qD hm
  | 5, hm, _, _, _, _, _, _ => exact qD hm
  | 6, hm, _, _, _, _, _, _ => exact qD hm
  | 7, hm, _, _, _, _, _, _ => exact qD hm
  | 8, _, ho, h0, hf, hg, hfr, zY =>
   simp only [qS] at ho
   subst ho
   refine ⟨rfl, ?_⟩
   have t0 : ρ (.tmp 12) = .agg #[.string ⟨#[]⟩, .slice none 0 0, .slice none 0 0, .slice none 0 0, .slice none 0 0] := zY 0 12 (by kernel_rfl) (by kernel_rfl)
   have tp : ρ (.tmp 2) = .pointer (some ⟨w.heap.size + 1, 0, none⟩) := hfr 2 (by kernel_rfl)
   refine yP 31 (.tmp 2) (.tmp 12) rfl (w.heap.size + 1) 31 _ _ tp t0 (hC.2 (hf 9 (by decide) (by kernel_rfl))).g qZ rfl rfl ?_
   intro w8 hB8 hU8
   refine ⟨⟨fun e => absurd ((hf 9 (by decide) (by kernel_rfl)).symm.trans (by simpa [yN] using e)) (by decide), fun _ => (hC.2 (hf 9 (by decide) (by kernel_rfl))).setG hB8 hU8⟩, fun h => absurd rfl h, ?_⟩
   intro j t _ hs
   match j, hs with
   | 0, hs => exact hs
   | 1, hs => exact hs
   | 2, hs => exact hs
   | 3, hs => exact hs
   | 4, hs => exact hs
   | 5, hs => exact hs
   | 6, hs => exact hs
   | 7, hs => exact hs
   | 8, hs => exact hs
   | 9, hs => exact hs
   | _ + 10, _ => trivial
  | 9, _, ho, h0, hf, hg, hfr, zY =>
   simp only [qS] at ho
   subst ho
   refine ⟨rfl, ?_⟩
   have t0 : ρ (.tmp 19) = .agg #[.int .i64 1, .int .i64 pl] := zY 7 19 (by kernel_rfl) (by kernel_rfl)
   have tp : ρ (.tmp 3) = .pointer (some ⟨w.heap.size + 2, 0, none⟩) := hfr 3 (by kernel_rfl)
   refine yP 34 (.tmp 3) (.tmp 19) rfl (w.heap.size + 2) 34 _ _ tp t0 (hC.2 h0).f kY rfl rfl ?_
   intro w8 hB8 hU8
   refine ⟨⟨fun _ => (hC.2 h0).setF hB8 hU8, fun e => absurd e (by simp [yN])⟩, fun h => absurd rfl h, ?_⟩
   intro j t _ hs
   match j, hs with
   | 0, hs => exact hs
   | 1, hs => exact hs
   | 2, hs => exact hs
   | 3, hs => exact hs
   | 4, hs => exact hs
   | 5, hs => exact hs
   | 6, hs => exact hs
   | 7, hs => exact hs
   | 8, hs => exact hs
   | 9, hs => exact hs
   | _ + 10, _ => trivial
  | n + 10, _, ho, _, _, _, _, _ => simp at ho
 intro V w9 hC9 hS
 simp only [yL, wJ]
 simp only [Act.put, qU]
 clear hS
 have BZ := zZ (hC9.1 rfl)
 clear hC9
 go_wp2
 have r0 : w9.cell? ⟨w.heap.size + 1, 0, none⟩ = some (.string ⟨#[]⟩) := BZ.out.g.cell rfl
 have r1 : w9.cell? ⟨w.heap.size + 1, 1, none⟩ = some (.slice none 0 0) := BZ.out.g.cell rfl
 have r2 : w9.cell? ⟨w.heap.size + 1, 2, none⟩ = some (.slice none 0 0) := BZ.out.g.cell rfl
 have r3 : w9.cell? ⟨w.heap.size + 1, 3, none⟩ = some (.slice none 0 0) := BZ.out.g.cell rfl
 have r4 : w9.cell? ⟨w.heap.size + 1, 4, none⟩ = some (.slice none 0 0) := BZ.out.g.cell rfl
 have u0 : w9.cell? ⟨w.heap.size + 2, 0, none⟩ = some (.int .i64 1) := BZ.out.f.cell rfl
 have u1 : w9.cell? ⟨w.heap.size + 2, 1, none⟩ = some (.int .i64 pl) := BZ.out.f.cell rfl
 refine bodyPost_ret (v := .tuple #[.agg #[.string ⟨#[]⟩, .slice none 0 0, .slice none 0 0, .slice none 0 0, .slice none 0 0], .agg #[.int .i64 1, .int .i64 pl]]) (by simp [results, Try.results6, go_sem, r0, r1, r2, r3, r4, u0, u1]) rfl ?_
 unfold oJ
 rw [HB9.out, if_neg (by show ¬ (1 : Int) = 0; decide)]
 exact ⟨rfl, BZ.out.bel⟩
theorem wR {B : Nat} {a w : World} (h : Below B a w) (n : Nat) : Below B a (w.drewN n) := h.trans ⟨rfl, rfl, rfl, Nat.le_refl _, fun _ _ => rfl⟩
theorem qN (Ps : List GP) (a b : Option Addr) (n c d : Nat) (w : World) (hn : Ps.length = n) (h1 : tO w a Ps) (h2 : tO w b Ps) (hl : n <= 1000000000000000) :
 Calls Try.prog 22 #[.slice a n c, .slice b n d] w fun e w' => e = .returned (.bool true) /\ Below w.heap.size w w' := by
 have H1 := zZ h1
 have H2 := zZ h2
 have HL := zZ hn
 have hee : ((n : Int) != (n : Int)) = false := by simp
 have hnI : (n : Int) <= 1000000000000000 := by omega
 clear h1 h2 hn
 go_enter Try.func22, Try.ntmps22
 go_wp2
 go_loopg [5] n (fun gk v wr => ∃ k : Nat, k <= n /\ gk = n - k /\ v = .int .i64 (k : Int) /\ Below w.heap.size w wr)
 case atStart => exact ⟨0, Nat.zero_le _, rfl, rfl, Below.refl _ _⟩
 case round =>
  obtain ⟨k, hk, rfl, rfl, hB⟩ := hrel
  have HB := zZ hB
  clear hB
  by_cases hlt : k < n
  ·have hki : (k : Int) < (n : Int) := by omega
   have hkl : k < Ps.length := by have := HL.out; omega
   rcases H1.out.below HB.out with e | ⟨g1, o1, rfl, hc1⟩
   ·rw [e] at hkl; exact absurd hkl (Nat.not_lt_zero _)
   rcases H2.out.below HB.out with e | ⟨g2, o2, rfl, hc2⟩
   ·rw [e] at hkl; exact absurd hkl (Nat.not_lt_zero _)
   obtain ⟨x0, x1, x2⟩ := hc1 k hkl
   obtain ⟨y0, y1, y2⟩ := hc2 k hkl
   generalize zF Ps k = E at *
   obtain ⟨nm, ac, po⟩ := E
   simp only at x0 x1 x2 y0 y1 y2
   clear hc1 hc2
   go_wp2
   go_quiet (fail)
   go_wp2
   go_roundg (n - (k + 1))
   case measure => omega
   case rel => exact ⟨k + 1, by omega, rfl, by go_num, wR HB.out _⟩
  have hki : ¬ (k : Int) < (n : Int) := by omega
  go_wp2
  go_ret
  exact ⟨rfl, HB.out⟩
theorem qM (g : GG) (a1 a2 a3 a4 b1 b2 b3 b4 : Option Addr) (c1 c2 c3 c4 d1 d2 d3 d4 : Nat) (w : World) (hA1 : YI w a1 g.A) (hE1 : VG w a2 g.E) (hI1 : tO w a3 g.ins) (hO1 : tO w a4 g.outs) (hA2 : YI w b1 g.A) (hE2 : VG w b2 g.E) (hI2 : tO w b3 g.ins) (hO2 : tO w b4 g.outs)
 (l1 : g.A.length <= 1000000000000000) (l2 : g.E.length <= 1000000000000000) (l3 : g.ins.length <= 1000000000000000) (l4 : g.outs.length <= 1000000000000000) (m1 : ∀ x ∈ g.A, x.params.length <= 4611686018427387904) (m2 : ∀ x ∈ g.E, x.start.length <= 4611686018427387904) :
 Calls Try.prog 8 #[.agg #[.string (zW g.name), .slice a1 g.A.length c1, .slice a2 g.E.length c2, .slice a3 g.ins.length c3, .slice a4 g.outs.length c4], .agg #[.string (zW g.name), .slice b1 g.A.length d1, .slice b2 g.E.length d2, .slice b3 g.ins.length d3, .slice b4 g.outs.length d4]] w fun e w' => e = .returned (.bool true) /\ Below w.heap.size w w' := by
 have ba := ((Below.refl w.heap.size w).alloc (Nat.le_refl _) (.cells #[.string (zW g.name), .slice a1 g.A.length c1, .slice a2 g.E.length c2, .slice a3 g.ins.length c3, .slice a4 g.outs.length c4] 31)).alloc (by simp) (.cells #[.string (zW g.name), .slice b1 g.A.length d1, .slice b2 g.E.length d2, .slice b3 g.ins.length d3, .slice b4 g.outs.length d4] 31)
 have BX0 : Hid (zN 31 w.heap.size ((w.alloc (.cells #[.string (zW g.name), .slice a1 g.A.length c1, .slice a2 g.E.length c2, .slice a3 g.ins.length c3, .slice a4 g.outs.length c4] 31)).alloc (.cells #[.string (zW g.name), .slice b1 g.A.length d1, .slice b2 g.E.length d2, .slice b3 g.ins.length d3, .slice b4 g.outs.length d4] 31)) #[.string (zW g.name), .slice a1 g.A.length c1, .slice a2 g.E.length c2, .slice a3 g.ins.length c3, .slice a4 g.outs.length c4] /\ zN 31 (w.heap.size + 1) ((w.alloc (.cells #[.string (zW g.name), .slice a1 g.A.length c1, .slice a2 g.E.length c2, .slice a3 g.ins.length c3, .slice a4 g.outs.length c4] 31)).alloc (.cells #[.string (zW g.name), .slice b1 g.A.length d1, .slice b2 g.E.length d2, .slice b3 g.ins.length d3, .slice b4 g.outs.length d4] 31)) #[.string (zW g.name), .slice b1 g.A.length d1, .slice b2 g.E.length d2, .slice b3 g.ins.length d3, .slice b4 g.outs.length d4] /\ Below w.heap.size w ((w.alloc (.cells #[.string (zW g.name), .slice a1 g.A.length c1, .slice a2 g.E.length c2, .slice a3 g.ins.length c3, .slice a4 g.outs.length c4] 31)).alloc (.cells #[.string (zW g.name), .slice b1 g.A.length d1, .slice b2 g.E.length d2, .slice b3 g.ins.length d3, .slice b4 g.outs.length d4] 31))) := by
  refine ⟨(zU 31 w #[.string (zW g.name), .slice a1 g.A.length c1, .slice a2 g.E.length c2, .slice a3 g.ins.length c3, .slice a4 g.outs.length c4]).below ((Below.refl _ _).alloc (Nat.le_refl _) (.cells #[.string (zW g.name), .slice b1 g.A.length d1, .slice b2 g.E.length d2, .slice b3 g.ins.length d3, .slice b4 g.outs.length d4] 31)), ?_, ba⟩
  have h3 := zU 31 (w.alloc (.cells #[.string (zW g.name), .slice a1 g.A.length c1, .slice a2 g.E.length c2, .slice a3 g.ins.length c3, .slice a4 g.outs.length c4] 31)) #[.string (zW g.name), .slice b1 g.A.length d1, .slice b2 g.E.length d2, .slice b3 g.ins.length d3, .slice b4 g.outs.length d4]
  rw [World.size_alloc] at h3
  exact h3
 have A1 := zZ hA1
 have E1 := zZ hE1
 have A2 := zZ hA2
 have E2 := zZ hE2
 have M1 := zZ m1
 have M2 := zZ m2
 have PI : Hid (∀ U, Below w.heap.size w U -> Calls Try.prog 22 #[.slice a3 g.ins.length c3, .slice b3 g.ins.length d3] U fun e w' => e = .returned (.bool true) /\ Below U.heap.size U w') := fun U hb => qN g.ins a3 b3 _ c3 d3 U rfl (hI1.below hb) (hI2.below hb) l3
 have PO : Hid (∀ U, Below w.heap.size w U -> Calls Try.prog 22 #[.slice a4 g.outs.length c4, .slice b4 g.outs.length d4] U fun e w' => e = .returned (.bool true) /\ Below U.heap.size U w') := fun U hb => qN g.outs a4 b4 _ c4 d4 U rfl (hO1.below hb) (hO2.below hb) l4
 have hstr : ((zW g.name).toList == (zW g.name).toList) = true := by simp
 have hstr2 : ((zW g.name).toList != (zW g.name).toList) = false := by simp
 clear ba hA1 hE1 hI1 hO1 hA2 hE2 hI2 hO2 m1 m2
 have n1 : (g.A.length : Int) <= 1000000000000000 := by omega
 have n2 : (g.E.length : Int) <= 1000000000000000 := by omega
 have e1 : ((g.A.length : Int) != (g.A.length : Int)) = false := by simp
 have e2 : ((g.E.length : Int) != (g.E.length : Int)) = false := by simp
 have q0 := BX0.out.1.cell (k := 0) rfl
 have r0 := BX0.out.2.1.cell (k := 0) rfl
 have q1 := BX0.out.1.cell (k := 1) rfl
 have r1 := BX0.out.2.1.cell (k := 1) rfl
 have q2 := BX0.out.1.cell (k := 2) rfl
 have r2 := BX0.out.2.1.cell (k := 2) rfl
 go_enter Try.func8, Try.ntmps8
 go_upto_region 1 with fail
 generalize (w.alloc (.cells #[.string (zW g.name), .slice a1 g.A.length c1, .slice a2 g.E.length c2, .slice a3 g.ins.length c3, .slice a4 g.outs.length c4] 31)).alloc (.cells #[.string (zW g.name), .slice b1 g.A.length d1, .slice b2 g.E.length d2, .slice b3 g.ins.length d3, .slice b4 g.outs.length d4] 31) = W0 at *
 go_wp2
 go_loopg [5] g.A.length (fun gk v wr => ∃ k : Nat, k <= g.A.length /\ gk = g.A.length - k /\ v = .int .i64 (k : Int) /\ zN 31 w.heap.size wr #[.string (zW g.name), .slice a1 g.A.length c1, .slice a2 g.E.length c2, .slice a3 g.ins.length c3, .slice a4 g.outs.length c4] /\ zN 31 (w.heap.size + 1) wr #[.string (zW g.name), .slice b1 g.A.length d1, .slice b2 g.E.length d2, .slice b3 g.ins.length d3, .slice b4 g.outs.length d4] /\ Below w.heap.size w wr)
 case atStart => exact ⟨0, Nat.zero_le _, rfl, rfl, BX0.out⟩
 case round =>
  clear BX0 q0 q1 q2 r0 r1 r2
  obtain ⟨k, hk, rfl, rfl, hX⟩ := hrel
  have BX := zZ hX
  clear hX
  have p1 : wr.cell? ⟨w.heap.size, 1, none⟩ = some (.slice a1 g.A.length c1) := BX.out.1.cell rfl
  have p2 : wr.cell? ⟨w.heap.size, 2, none⟩ = some (.slice a2 g.E.length c2) := BX.out.1.cell rfl
  have p3 : wr.cell? ⟨w.heap.size, 3, none⟩ = some (.slice a3 g.ins.length c3) := BX.out.1.cell rfl
  have p4 : wr.cell? ⟨w.heap.size, 4, none⟩ = some (.slice a4 g.outs.length c4) := BX.out.1.cell rfl
  have q1 : wr.cell? ⟨w.heap.size + 1, 1, none⟩ = some (.slice b1 g.A.length d1) := BX.out.2.1.cell rfl
  have q2 : wr.cell? ⟨w.heap.size + 1, 2, none⟩ = some (.slice b2 g.E.length d2) := BX.out.2.1.cell rfl
  have q3 : wr.cell? ⟨w.heap.size + 1, 3, none⟩ = some (.slice b3 g.ins.length d3) := BX.out.2.1.cell rfl
  have q4 : wr.cell? ⟨w.heap.size + 1, 4, none⟩ = some (.slice b4 g.outs.length d4) := BX.out.2.1.cell rfl
  by_cases hlt : k < g.A.length
  ·have hki : (k : Int) < (g.A.length : Int) := by omega
   rcases A1.out.below BX.out.2.2 with e | ⟨g1, o1, rfl, hc1⟩
   ·rw [e] at hlt; exact absurd hlt (Nat.not_lt_zero _)
   rcases A2.out.below BX.out.2.2 with e | ⟨g2, o2, rfl, hc2⟩
   ·rw [e] at hlt; exact absurd hlt (Nat.not_lt_zero _)
   obtain ⟨x0, x1, -, xa, xc, x2, x3⟩ := hc1 k hlt
   obtain ⟨y0, y1, -, ya, yc, y2, y3⟩ := hc2 k hlt
   have hm := M1.out (zI g.A k) (by rw [tI hlt]; exact List.getElem_mem hlt)
   generalize zI g.A k = E at *
   obtain ⟨en, tg, ps⟩ := E
   simp only at x0 x1 x2 x3 y0 y1 y2 y3 hm
   have bv := ((Below.refl wr.heap.size wr).alloc (Nat.le_refl _) (.cells #[.string (zW en), .int .u8 (tg : Int), .slice xa ps.length xc] 61)).alloc (by simp) (.cells #[.string (zW en), .int .u8 (tg : Int), .slice ya ps.length yc] 61)
   have SI := zZ (mQ xa ya ps ps.length xc yc _ rfl hm (x3.below bv) (y3.below bv))
   have BV := zZ bv
   have es : ((zW en).toList == (zW en).toList) = true := by simp
   have et : ((tg : Int) != (tg : Int)) = false := by simp
   have zq : (wr.alloc (.cells #[.string (zW en), .int .u8 (tg : Int), .slice xa ps.length xc] 61)).cell? ⟨w.heap.size + 1, 1, none⟩ = some (.slice (some ⟨g2, o2, none⟩) g.A.length d1) := (BX.out.2.1.below ((Below.refl _ _).alloc (Nat.le_refl _) _)).cell rfl
   have k1 := (Below.refl wr.heap.size wr).alloc (Nat.le_refl _) (.cells #[.string (zW en), .int .u8 (tg : Int), .slice xa ps.length xc] 61)
   have y0 := yF k1 y0
   have y1 := yF k1 y1
   have y2 := yF k1 y2
   clear hc1 hc2 x3 y3 bv hm k1
   go_wp2_with (go_at_call 21; (with_reducible refine SI.out.mono ?_); rintro e w5 ⟨n5, rfl, rfl⟩)
   go_roundg (g.A.length - (k + 1))
   case measure => omega
   case rel => exact ⟨k + 1, by omega, rfl, by go_num, (BX.out.1.below (wR BV.out _)), (BX.out.2.1.below (wR BV.out _)), wR (BX.out.2.2.trans (BV.out.mono BX.out.2.2.size)) _⟩
  have hki : ¬ (k : Int) < (g.A.length : Int) := by omega
  go_wp2
  go_loopg [8] g.E.length (fun gk v wr => ∃ k : Nat, k <= g.E.length /\ gk = g.E.length - k /\ v = .int .i64 (k : Int) /\ zN 31 w.heap.size wr #[.string (zW g.name), .slice a1 g.A.length c1, .slice a2 g.E.length c2, .slice a3 g.ins.length c3, .slice a4 g.outs.length c4] /\ zN 31 (w.heap.size + 1) wr #[.string (zW g.name), .slice b1 g.A.length d1, .slice b2 g.E.length d2, .slice b3 g.ins.length d3, .slice b4 g.outs.length d4] /\ Below w.heap.size w wr)
  case atStart => exact ⟨0, Nat.zero_le _, rfl, rfl, BX.out⟩
  case round =>
   clear BX p1 p2 p3 p4 q1 q2 q3 q4 hki hlt
   obtain ⟨k, hk, rfl, rfl, hX⟩ := hrel
   have BX := zZ hX
   clear hX
   have p1 : wr.cell? ⟨w.heap.size, 1, none⟩ = some (.slice a1 g.A.length c1) := BX.out.1.cell rfl
   have p2 : wr.cell? ⟨w.heap.size, 2, none⟩ = some (.slice a2 g.E.length c2) := BX.out.1.cell rfl
   have p3 : wr.cell? ⟨w.heap.size, 3, none⟩ = some (.slice a3 g.ins.length c3) := BX.out.1.cell rfl
   have p4 : wr.cell? ⟨w.heap.size, 4, none⟩ = some (.slice a4 g.outs.length c4) := BX.out.1.cell rfl
   have q1 : wr.cell? ⟨w.heap.size + 1, 1, none⟩ = some (.slice b1 g.A.length d1) := BX.out.2.1.cell rfl
   have q2 : wr.cell? ⟨w.heap.size + 1, 2, none⟩ = some (.slice b2 g.E.length d2) := BX.out.2.1.cell rfl
   have q3 : wr.cell? ⟨w.heap.size + 1, 3, none⟩ = some (.slice b3 g.ins.length d3) := BX.out.2.1.cell rfl
   have q4 : wr.cell? ⟨w.heap.size + 1, 4, none⟩ = some (.slice b4 g.outs.length d4) := BX.out.2.1.cell rfl
   by_cases hlt : k < g.E.length
   ·have hki : (k : Int) < (g.E.length : Int) := by omega
    rcases E1.out.below BX.out.2.2 with e | ⟨g1, o1, rfl, hc1⟩
    ·rw [e] at hlt; exact absurd hlt (Nat.not_lt_zero _)
    rcases E2.out.below BX.out.2.2 with e | ⟨g2, o2, rfl, hc2⟩
    ·rw [e] at hlt; exact absurd hlt (Nat.not_lt_zero _)
    obtain ⟨x0, x1, x2, x3, xa, xc, x4, x5⟩ := hc1 k hlt
    obtain ⟨y0, y1, y2, y3, ya, yc, y4, y5⟩ := hc2 k hlt
    have hm := M2.out (yU g.E k) (by rw [tH hlt]; exact List.getElem_mem hlt)
    generalize yU g.E k = E at *
    obtain ⟨ef, efp, et, etp, ps⟩ := E
    simp only at x0 x1 x2 x3 x4 x5 y0 y1 y2 y3 y4 y5 hm
    have bv := ((Below.refl wr.heap.size wr).alloc (Nat.le_refl _) (.cells #[.int .i64 ef, .int .i64 efp, .int .i64 et, .int .i64 etp, .slice xa ps.length xc] 64)).alloc (by simp) (.cells #[.int .i64 ef, .int .i64 efp, .int .i64 et, .int .i64 etp, .slice ya ps.length yc] 64)
    have SI := zZ (mQ xa ya ps ps.length xc yc _ rfl hm (x5.below bv) (y5.below bv))
    have BV := zZ bv
    have s1 : (ef != ef) = false := by simp
    have s2 : (efp != efp) = false := by simp
    have s3 : (et != et) = false := by simp
    have s4 : (etp != etp) = false := by simp
    have zq : (wr.alloc (.cells #[.int .i64 ef, .int .i64 efp, .int .i64 et, .int .i64 etp, .slice xa ps.length xc] 64)).cell? ⟨w.heap.size + 1, 2, none⟩ = some (.slice (some ⟨g2, o2, none⟩) g.E.length d2) := (BX.out.2.1.below ((Below.refl _ _).alloc (Nat.le_refl _) _)).cell rfl
    have k1 := (Below.refl wr.heap.size wr).alloc (Nat.le_refl _) (.cells #[.int .i64 ef, .int .i64 efp, .int .i64 et, .int .i64 etp, .slice xa ps.length xc] 64)
    have y0 := yF k1 y0
    have y1 := yF k1 y1
    have y2 := yF k1 y2
    have y3 := yF k1 y3
    have y4 := yF k1 y4
    clear hc1 hc2 x5 y5 bv hm k1
    go_wp2_with (go_at_call 21; (with_reducible refine SI.out.mono ?_); rintro e w5 ⟨n5, rfl, rfl⟩)
    go_roundg (g.E.length - (k + 1))
    case measure => omega
    case rel => exact ⟨k + 1, by omega, rfl, by go_num, (BX.out.1.below (wR BV.out _)), (BX.out.2.1.below (wR BV.out _)), wR (BX.out.2.2.trans (BV.out.mono BX.out.2.2.size)) _⟩
   have hki : ¬ (k : Int) < (g.E.length : Int) := by omega
   go_wp2_with (first
    | (go_at_call 22; (with_reducible refine (PO.out _ BI.out).mono ?_); rintro e w7 ⟨rfl, b7⟩; have BO := zZ (BI.out.trans (b7.mono BI.out.size)); clear b7)
    | (go_at_call 22; (with_reducible refine (PI.out _ BX.out.2.2).mono ?_); rintro e w6 ⟨rfl, b6⟩; have BI := zZ (BX.out.2.2.trans (b6.mono BX.out.2.2.size)); have p4 := yF b6 p4; have q4 := yF b6 q4; clear b6))
   go_ret
   exact ⟨rfl, BO.out⟩
def qA (tp : Int) (outs : List GP) : GG := ⟨[103], [⟨[97], 2, [2]⟩, ⟨[98], 8, []⟩], [⟨0, 0, 1, tp, [7]⟩], [⟨[120], 0, 0⟩], outs⟩
def wX : GG := qA 0 [⟨[121], 1, 0⟩]
theorem gL : (yZ wX).code = 0 := by decide
theorem bY : (yZ (qA 1 [⟨[121], 1, 0⟩])).code = 85 := by decide
theorem eT : (yZ (qA 0 [])).code = 87 := by decide
theorem eS : yI [103] (tK wX) = (wX, 0, 0) := by rfl
theorem lW : (tK wX).length = 5 /\ ((tK wX).getD 0 nY).tag = [117, 112] := by decide
structure jA (b : Nat) (tp : Int) (w : World) : Prop where
 i2 : zN 3 (b + 1) w #[.int .i64 2]
 ac : zN 61 (b + 2) w #[.string ⟨#[97]⟩, .int .u8 2, .slice (some ⟨b + 1, 0, none⟩) 1 1, .string ⟨#[98]⟩, .int .u8 8, .slice none 0 0]
 i7 : zN 3 (b + 3) w #[.int .i64 7]
 ed : zN 64 (b + 4) w #[.int .i64 0, .int .i64 0, .int .i64 1, .int .i64 tp, .slice (some ⟨b + 3, 0, none⟩) 1 1]
 pi : zN 83 (b + 5) w #[.string ⟨#[120]⟩, .int .i64 0, .int .i64 0]
 po : zN 83 (b + 6) w #[.string ⟨#[121]⟩, .int .i64 1, .int .i64 0]
theorem jA.below {b : Nat} {tp : Int} {w w' : World} (h : jA b tp w) (hb : Below w.heap.size w w') : jA b tp w' := ⟨h.i2.below hb, h.ac.below hb, h.i7.below hb, h.ed.below hb, h.pi.below hb, h.po.below hb⟩
theorem jA.set {b : Nat} {tp : Int} {w : World} (h : jA b tp w) (x : Int) : jA b x (w.setCell ⟨b + 4, 3, none⟩ (.int .i64 x)) := by
 have set : ∀ k, k ≠ b + 4 -> (w.setCell ⟨b + 4, 3, none⟩ (.int .i64 x)).heap[k]? = w.heap[k]? := fun k hk => Below.heap_setCell w ⟨b + 4, 3, none⟩ _ k hk
 exact ⟨h.i2.keep (set _ (by omega)), h.ac.keep (set _ (by omega)), h.i7.keep (set _ (by omega)), h.ed.set 3 _, h.pi.keep (set _ (by omega)), h.po.keep (set _ (by omega))⟩
theorem iZ {z : Int} (h : -9223372036854775808 <= z /\ z <= 9223372036854775807) : InR [z] := fun k => by
 match k with
 | 0 => exact h
 | k + 1 => exact (by decide : (-9223372036854775808 : Int) <= 0 /\ (0 : Int) <= 9223372036854775807)
theorem iY {w : World} {g : Nat} {z : Int} (h : zN 3 g w #[.int .i64 z]) (hz : -9223372036854775808 <= z /\ z <= 9223372036854775807) : lJ w (some ⟨g, 0, none⟩) 1 1 [z] :=
 ⟨rfl, by decide, (fun e => by cases e), iZ hz, .inr ⟨g, 0, rfl, fun k hk => by
  have e : k = 0 := by simp at hk; omega
  subst e
  exact h.cell rfl⟩, Nat.le_refl _⟩
theorem jA.gr {b : Nat} {tp : Int} {w : World} (h : jA b tp w) : sH w (some ⟨b + 2, 0, none⟩) (some ⟨b + 4, 0, none⟩) (some ⟨b + 5, 0, none⟩) (some ⟨b + 6, 0, none⟩) (qA tp [⟨[121], 1, 0⟩]) := by
 refine ⟨.inr ⟨b + 2, 0, rfl, fun k hk => ?_⟩, .inr ⟨b + 4, 0, rfl, fun k hk => ?_⟩, .inr ⟨b + 5, 0, rfl, fun k hk => ?_⟩, .inr ⟨b + 6, 0, rfl, fun k hk => ?_⟩, by show 2 <= 1000000000000000; decide, by show 1 <= 1000000000000000; decide, by show 1 <= 1000000000000000; decide, by show 1 <= 1000000000000000; decide⟩
 ·match k, hk with
  | 0, _ => exact ⟨h.ac.cell (k := 0) rfl, h.ac.cell (k := 1) rfl, by show 2 <= 255; decide, _, _, h.ac.cell (k := 2) rfl, iY h.i2 (by decide)⟩
  | 1, _ => exact ⟨h.ac.cell (k := 3) rfl, h.ac.cell (k := 4) rfl, by show 8 <= 255; decide, _, _, h.ac.cell (k := 5) rfl, eB⟩
  | k + 2, hk => exact absurd hk (by show ¬ k + 2 < 2; omega)
 ·match k, hk with
  | 0, _ => exact ⟨h.ed.cell (k := 0) rfl, h.ed.cell (k := 1) rfl, h.ed.cell (k := 2) rfl, h.ed.cell (k := 3) rfl, _, _, h.ed.cell (k := 4) rfl, iY h.i7 (by decide)⟩
  | k + 1, hk => exact absurd hk (by show ¬ k + 1 < 1; omega)
 ·match k, hk with
  | 0, _ => exact ⟨h.pi.cell (k := 0) rfl, h.pi.cell (k := 1) rfl, h.pi.cell (k := 2) rfl⟩
  | k + 1, hk => exact absurd hk (by show ¬ k + 1 < 1; omega)
 match k, hk with
 | 0, _ => exact ⟨h.po.cell (k := 0) rfl, h.po.cell (k := 1) rfl, h.po.cell (k := 2) rfl⟩
 | k + 1, hk => exact absurd hk (by show ¬ k + 1 < 1; omega)
theorem jA.grOpen {b : Nat} {tp : Int} {w : World} (h : jA b tp w) : sH w (some ⟨b + 2, 0, none⟩) (some ⟨b + 4, 0, none⟩) (some ⟨b + 5, 0, none⟩) none (qA tp []) := by
 have g := h.gr
 exact ⟨g.A, g.E, g.I, .inl rfl, g.l1, g.l2, g.l3, Nat.zero_le _⟩
def eR (b : Nat) : Value := .agg #[.string ⟨#[103]⟩, .slice (some ⟨b + 2, 0, none⟩) 2 2, .slice (some ⟨b + 4, 0, none⟩) 1 1, .slice (some ⟨b + 5, 0, none⟩) 1 1, .slice (some ⟨b + 6, 0, none⟩) 1 1]
def TU (w : World) (e : Ending) (w' : World) : Prop := e = .returned (eR w.heap.size) /\ jA w.heap.size 0 w' /\ Below w.heap.size w w'
theorem bX (w : World) : Calls Try.prog 25 #[] w (TU w) := by
 have key : Hid (jA w.heap.size 0 (((((((w.alloc (.cells #[.string ⟨#[]⟩, .slice none 0 0, .slice none 0 0, .slice none 0 0, .slice none 0 0] 31)).alloc (.cells #[.int .i64 2] 3)).alloc (.cells #[.string ⟨#[97]⟩, .int .u8 2, .slice (some ⟨w.heap.size + 1, 0, none⟩) 1 1, .string ⟨#[98]⟩, .int .u8 8, .slice none 0 0] 61)).alloc (.cells #[.int .i64 7] 3)).alloc (.cells #[.int .i64 0, .int .i64 0, .int .i64 1, .int .i64 0, .slice (some ⟨w.heap.size + 3, 0, none⟩) 1 1] 64)).alloc (.cells #[.string ⟨#[120]⟩, .int .i64 0, .int .i64 0] 83)).alloc (.cells #[.string ⟨#[121]⟩, .int .i64 1, .int .i64 0] 83)) /\ zN 31 w.heap.size (((((((w.alloc (.cells #[.string ⟨#[]⟩, .slice none 0 0, .slice none 0 0, .slice none 0 0, .slice none 0 0] 31)).alloc (.cells #[.int .i64 2] 3)).alloc (.cells #[.string ⟨#[97]⟩, .int .u8 2, .slice (some ⟨w.heap.size + 1, 0, none⟩) 1 1, .string ⟨#[98]⟩, .int .u8 8, .slice none 0 0] 61)).alloc (.cells #[.int .i64 7] 3)).alloc (.cells #[.int .i64 0, .int .i64 0, .int .i64 1, .int .i64 0, .slice (some ⟨w.heap.size + 3, 0, none⟩) 1 1] 64)).alloc (.cells #[.string ⟨#[120]⟩, .int .i64 0, .int .i64 0] 83)).alloc (.cells #[.string ⟨#[121]⟩, .int .i64 1, .int .i64 0] 83)) #[.string ⟨#[]⟩, .slice none 0 0, .slice none 0 0, .slice none 0 0, .slice none 0 0] /\ Below w.heap.size w (((((((w.alloc (.cells #[.string ⟨#[]⟩, .slice none 0 0, .slice none 0 0, .slice none 0 0, .slice none 0 0] 31)).alloc (.cells #[.int .i64 2] 3)).alloc (.cells #[.string ⟨#[97]⟩, .int .u8 2, .slice (some ⟨w.heap.size + 1, 0, none⟩) 1 1, .string ⟨#[98]⟩, .int .u8 8, .slice none 0 0] 61)).alloc (.cells #[.int .i64 7] 3)).alloc (.cells #[.int .i64 0, .int .i64 0, .int .i64 1, .int .i64 0, .slice (some ⟨w.heap.size + 3, 0, none⟩) 1 1] 64)).alloc (.cells #[.string ⟨#[120]⟩, .int .i64 0, .int .i64 0] 83)).alloc (.cells #[.string ⟨#[121]⟩, .int .i64 1, .int .i64 0] 83))) := by
  have st : ∀ (u : World) (o : Obj), (u.alloc o).heap.size = u.heap.size + 1 := fun u o => World.size_alloc u o
  obtain ⟨W1, e1⟩ : ∃ W, w.alloc (.cells #[.string ⟨#[]⟩, .slice none 0 0, .slice none 0 0, .slice none 0 0, .slice none 0 0] 31) = W := ⟨_, rfl⟩
  obtain ⟨W2, e2⟩ : ∃ W, W1.alloc (.cells #[.int .i64 2] 3) = W := ⟨_, rfl⟩
  obtain ⟨W3, e3⟩ : ∃ W, W2.alloc (.cells #[.string ⟨#[97]⟩, .int .u8 2, .slice (some ⟨w.heap.size + 1, 0, none⟩) 1 1, .string ⟨#[98]⟩, .int .u8 8, .slice none 0 0] 61) = W := ⟨_, rfl⟩
  obtain ⟨W4, e4⟩ : ∃ W, W3.alloc (.cells #[.int .i64 7] 3) = W := ⟨_, rfl⟩
  obtain ⟨W5, e5⟩ : ∃ W, W4.alloc (.cells #[.int .i64 0, .int .i64 0, .int .i64 1, .int .i64 0, .slice (some ⟨w.heap.size + 3, 0, none⟩) 1 1] 64) = W := ⟨_, rfl⟩
  obtain ⟨W6, e6⟩ : ∃ W, W5.alloc (.cells #[.string ⟨#[120]⟩, .int .i64 0, .int .i64 0] 83) = W := ⟨_, rfl⟩
  obtain ⟨W7, e7⟩ : ∃ W, W6.alloc (.cells #[.string ⟨#[121]⟩, .int .i64 1, .int .i64 0] 83) = W := ⟨_, rfl⟩
  rw [e1, e2, e3, e4, e5, e6, e7]
  have s1 : W1.heap.size = w.heap.size + 1 := by rw [<- e1, st]
  have s2 : W2.heap.size = w.heap.size + 2 := by rw [<- e2, st, s1]
  have s3 : W3.heap.size = w.heap.size + 3 := by rw [<- e3, st, s2]
  have s4 : W4.heap.size = w.heap.size + 4 := by rw [<- e4, st, s3]
  have s5 : W5.heap.size = w.heap.size + 5 := by rw [<- e5, st, s4]
  have s6 : W6.heap.size = w.heap.size + 6 := by rw [<- e6, st, s5]
  have s7 : W7.heap.size = w.heap.size + 7 := by rw [<- e7, st, s6]
  have b0 : Below w.heap.size w W1 := by rw [<- e1]; exact (Below.refl _ _).alloc (Nat.le_refl _) _
  have k0 : zN 31 (w.heap.size) W1 #[.string ⟨#[]⟩, .slice none 0 0, .slice none 0 0, .slice none 0 0, .slice none 0 0] := by
   have q := zU 31 w #[.string ⟨#[]⟩, .slice none 0 0, .slice none 0 0, .slice none 0 0, .slice none 0 0]
   rw [<- e1]
   exact q
  have b1 : Below W1.heap.size W1 W2 := by rw [<- e2]; exact (Below.refl _ _).alloc (Nat.le_refl _) _
  have k1 : zN 3 (w.heap.size + 1) W2 #[.int .i64 2] := by
   have q := zU 3 W1 #[.int .i64 2]
   rw [s1] at q
   rw [<- e2]
   exact q
  have b2 : Below W2.heap.size W2 W3 := by rw [<- e3]; exact (Below.refl _ _).alloc (Nat.le_refl _) _
  have k2 : zN 61 (w.heap.size + 2) W3 #[.string ⟨#[97]⟩, .int .u8 2, .slice (some ⟨w.heap.size + 1, 0, none⟩) 1 1, .string ⟨#[98]⟩, .int .u8 8, .slice none 0 0] := by
   have q := zU 61 W2 #[.string ⟨#[97]⟩, .int .u8 2, .slice (some ⟨w.heap.size + 1, 0, none⟩) 1 1, .string ⟨#[98]⟩, .int .u8 8, .slice none 0 0]
   rw [s2] at q
   rw [<- e3]
   exact q
  have b3 : Below W3.heap.size W3 W4 := by rw [<- e4]; exact (Below.refl _ _).alloc (Nat.le_refl _) _
  have k3 : zN 3 (w.heap.size + 3) W4 #[.int .i64 7] := by
   have q := zU 3 W3 #[.int .i64 7]
   rw [s3] at q
   rw [<- e4]
   exact q
  have b4 : Below W4.heap.size W4 W5 := by rw [<- e5]; exact (Below.refl _ _).alloc (Nat.le_refl _) _
  have k4 : zN 64 (w.heap.size + 4) W5 #[.int .i64 0, .int .i64 0, .int .i64 1, .int .i64 0, .slice (some ⟨w.heap.size + 3, 0, none⟩) 1 1] := by
   have q := zU 64 W4 #[.int .i64 0, .int .i64 0, .int .i64 1, .int .i64 0, .slice (some ⟨w.heap.size + 3, 0, none⟩) 1 1]
   rw [s4] at q
   rw [<- e5]
   exact q
  have b5 : Below W5.heap.size W5 W6 := by rw [<- e6]; exact (Below.refl _ _).alloc (Nat.le_refl _) _
  have k5 : zN 83 (w.heap.size + 5) W6 #[.string ⟨#[120]⟩, .int .i64 0, .int .i64 0] := by
   have q := zU 83 W5 #[.string ⟨#[120]⟩, .int .i64 0, .int .i64 0]
   rw [s5] at q
   rw [<- e6]
   exact q
  have b6 : Below W6.heap.size W6 W7 := by rw [<- e7]; exact (Below.refl _ _).alloc (Nat.le_refl _) _
  have k6 : zN 83 (w.heap.size + 6) W7 #[.string ⟨#[121]⟩, .int .i64 1, .int .i64 0] := by
   have q := zU 83 W6 #[.string ⟨#[121]⟩, .int .i64 1, .int .i64 0]
   rw [s6] at q
   rw [<- e7]
   exact q
  have bw : Below w.heap.size w W7 := by
   have c1 := (b0).trans (b1.mono (by omega))
   have c2 := (c1).trans (b2.mono (by omega))
   have c3 := (c2).trans (b3.mono (by omega))
   have c4 := (c3).trans (b4.mono (by omega))
   have c5 := (c4).trans (b5.mono (by omega))
   have c6 := (c5).trans (b6.mono (by omega))
   exact c6
  exact ⟨⟨(((((k1.below b2).below b3).below b4).below b5).below b6), ((((k2.below b3).below b4).below b5).below b6), (((k3.below b4).below b5).below b6), ((k4.below b5).below b6), (k5.below b6), k6⟩, ((((((k0.below b1).below b2).below b3).below b4).below b5).below b6), bw⟩
 go_enter Try.func25, Try.ntmps25
 go_wp2_with (refine zM _ rfl 31 (.tmp 0) (.tmp 12) rfl rfl w.heap.size 31 _ _ rfl rfl key.out.2.1 qZ rfl rfl ?_; intro w8 hN hU; have N8 := zZ hN; have U8 := zZ hU; clear hN hU)
 have t0 : w8.cell? ⟨w.heap.size, 0, none⟩ = some (.string ⟨#[103]⟩) := N8.out.cell rfl
 have t1 : w8.cell? ⟨w.heap.size, 1, none⟩ = some (.slice (some ⟨w.heap.size + 2, 0, none⟩) 2 2) := N8.out.cell rfl
 have t2 : w8.cell? ⟨w.heap.size, 2, none⟩ = some (.slice (some ⟨w.heap.size + 4, 0, none⟩) 1 1) := N8.out.cell rfl
 have t3 : w8.cell? ⟨w.heap.size, 3, none⟩ = some (.slice (some ⟨w.heap.size + 5, 0, none⟩) 1 1) := N8.out.cell rfl
 have t4 : w8.cell? ⟨w.heap.size, 4, none⟩ = some (.slice (some ⟨w.heap.size + 6, 0, none⟩) 1 1) := N8.out.cell rfl
 refine bodyPost_ret (v := eR w.heap.size) (by simp [results, Try.results25, go_sem, t0, t1, t2, t3, t4, eR]) rfl ?_
 have h := key.out.1
 have kp : ∀ k, w.heap.size < k -> k < (((((((w.alloc (.cells #[.string ⟨#[]⟩, .slice none 0 0, .slice none 0 0, .slice none 0 0, .slice none 0 0] 31)).alloc (.cells #[.int .i64 2] 3)).alloc (.cells #[.string ⟨#[97]⟩, .int .u8 2, .slice (some ⟨w.heap.size + 1, 0, none⟩) 1 1, .string ⟨#[98]⟩, .int .u8 8, .slice none 0 0] 61)).alloc (.cells #[.int .i64 7] 3)).alloc (.cells #[.int .i64 0, .int .i64 0, .int .i64 1, .int .i64 0, .slice (some ⟨w.heap.size + 3, 0, none⟩) 1 1] 64)).alloc (.cells #[.string ⟨#[120]⟩, .int .i64 0, .int .i64 0] 83)).alloc (.cells #[.string ⟨#[121]⟩, .int .i64 1, .int .i64 0] 83)).heap.size -> w8.heap[k]? = (((((((w.alloc (.cells #[.string ⟨#[]⟩, .slice none 0 0, .slice none 0 0, .slice none 0 0, .slice none 0 0] 31)).alloc (.cells #[.int .i64 2] 3)).alloc (.cells #[.string ⟨#[97]⟩, .int .u8 2, .slice (some ⟨w.heap.size + 1, 0, none⟩) 1 1, .string ⟨#[98]⟩, .int .u8 8, .slice none 0 0] 61)).alloc (.cells #[.int .i64 7] 3)).alloc (.cells #[.int .i64 0, .int .i64 0, .int .i64 1, .int .i64 0, .slice (some ⟨w.heap.size + 3, 0, none⟩) 1 1] 64)).alloc (.cells #[.string ⟨#[120]⟩, .int .i64 0, .int .i64 0] 83)).alloc (.cells #[.string ⟨#[121]⟩, .int .i64 1, .int .i64 0] 83)).heap[k]? := fun k h1 h2 => U8.out.block k h2 (Nat.ne_of_gt h1)
 refine ⟨rfl, ⟨h.i2.keep (kp _ (by omega) h.i2.lt), h.ac.keep (kp _ (by omega) h.ac.lt), h.i7.keep (kp _ (by omega) h.i7.lt), h.ed.keep (kp _ (by omega) h.ed.lt), h.pi.keep (kp _ (by omega) h.pi.lt), h.po.keep (kp _ (by omega) h.po.lt)⟩, key.out.2.2.trans (U8.out.below (Nat.le_refl _) key.out.2.2.size)⟩
theorem pE {l : List UInt8} (h : yM l = true) : l.length <= 16 := by
 unfold yM at h
 simp only [Bool.and_eq_true, decide_eq_true_eq] at h
 exact h.1
theorem tG {B : Nat} {w : World} {q : Value} {ns : List Int} (h : yC B w q ns) (ho : xL ns) : ∃ x c, q = .slice x ns.length c /\ lJ w x ns.length c ns := by
 obtain ⟨a, cap, e, -, h1, h2, h3, -⟩ := sZ (n := ns.length) (zs := ns) h
 exact ⟨a, cap, e, ⟨rfl, ho.2, h3, ho.1, h1, h2⟩⟩
theorem lV : xL [] := ⟨inR0, by decide⟩
theorem TT {As : List GA} {x : GA} (h : x ∈ As) : ∃ k, k < As.length /\ x = zI As k := by
 obtain ⟨k, hk, rfl⟩ := List.mem_iff_getElem.1 h
 exact ⟨k, hk, (tI hk).symm⟩
theorem TS {As : List GE} {x : GE} (h : x ∈ As) : ∃ k, k < As.length /\ x = yU As k := by
 obtain ⟨k, hk, rfl⟩ := List.mem_iff_getElem.1 h
 exact ⟨k, hk, (tH hk).symm⟩
theorem memP {As : List GP} {x : GP} (h : x ∈ As) : ∃ k, k < As.length /\ x = zF As k := by
 obtain ⟨k, hk, rfl⟩ := List.mem_iff_getElem.1 h
 exact ⟨k, hk, (pH hk).symm⟩
theorem nF {g : GG} (hS : oM g) {a p : Int} (h0 : 0 <= a) (h1 : a < (g.A.length : Int)) : (nR g a p).name.length <= 16 := pE (mF (hS.acts a.toNat (by omega))).1
def ZE (x : yO) : Prop := xL x.nums /\ x.name.length <= 140737488355328 /\ x.frm.name.length <= 140737488355328 /\ x.tgt.name.length <= 140737488355328
theorem eQ {g : GG} (hS : oM g) (hA : ∀ a ∈ g.A, xL a.params) (hE : ∀ e ∈ g.E, xL e.start) : ∀ x ∈ tK g, ZE x := by
 intro x hx
 unfold tK at hx
 simp only [List.mem_append, List.mem_map] at hx
 rcases hx with ⟨a, ha, rfl⟩ | ⟨e, he, rfl⟩ | ⟨p, hp, rfl⟩ | ⟨p, hp, rfl⟩
 ·obtain ⟨k, hk, rfl⟩ := TT ha
  have h1 := pE (mF (hS.acts k hk)).1
  exact ⟨hA _ ha, by show (zI g.A k).name.length <= _; omega, Nat.zero_le _, Nat.zero_le _⟩
 ·obtain ⟨k, hk, rfl⟩ := TS he
  have h1 := (dQ (hS.E k hk)).1
  have q1 := nF hS (p := (yU g.E k).fp) h1.f0 h1.f1
  have q2 := nF hS (p := (yU g.E k).tp) h1.t0 h1.t1
  exact ⟨hE _ he, Nat.zero_le _, by show (nR g _ _).name.length <= _; omega, by show (nR g _ _).name.length <= _; omega⟩
 ·obtain ⟨k, hk, rfl⟩ := memP hp
  have h1 := VE (hS.ins k hk)
  have q1 := nF hS (p := (zF g.ins k).port) h1.2.2.1.1 h1.2.2.1.2.1
  have q2 := pE h1.1
  exact ⟨lV, by show (zF g.ins k).name.length <= _; omega, Nat.zero_le _, by show (nR g _ _).name.length <= _; omega⟩
 obtain ⟨k, hk, rfl⟩ := memP hp
 have h1 := ZS (hS.outs k hk)
 have q1 := nF hS (p := (zF g.outs k).port) h1.2.2.1.1 h1.2.2.1.2.1
 have q2 := pE h1.1
 exact ⟨lV, by show (zF g.outs k).name.length <= _; omega, by show (nR g _ _).name.length <= _; omega, Nat.zero_le _⟩
theorem ZD (g : GG) (hS : oM g) : (tK g).length <= 160 := by
 have h := rJ hS.head
 unfold tK
 simp only [List.length_append, List.length_map]
 omega
theorem bW {B : Nat} {w : World} {a : Option Addr} {c : Nat} {M : List (yO × Value)} (h : rA B w (.slice a M.length c) M) (hs : ∀ x ∈ M.map Prod.fst, ZE x) : nS w a M /\ bZ w M :=
 ⟨h.at5, ⟨fun p hp => tG (h.nums p hp) (hs p.1 (List.mem_map_of_mem hp)).1, fun p hp => (hs p.1 (List.mem_map_of_mem hp)).2⟩⟩
theorem sQ.gr {B : Nat} {w : World} {x1 x2 x3 x4 : Option Addr} {n1 n2 n3 n4 d1 d2 d3 d4 : Nat} {nm : List UInt8} {As : List (GA × Value)} {Es : List (GE × Value)} {Ps Os : List GP} (h : sQ B w (.slice x1 n1 d1) (.slice x2 n2 d2) (.slice x3 n3 d3) (.slice x4 n4 d4) As Es Ps Os) (ha : ∀ p ∈ As, p.1.tag <= 255 /\ xL p.1.params) (he : ∀ p ∈ Es, xL p.1.start)
 (l1 : As.length <= 1000000000000000) (l2 : Es.length <= 1000000000000000) (l3 : Ps.length <= 1000000000000000) (l4 : Os.length <= 1000000000000000) : sH w x1 x2 x3 x4 ⟨nm, As.map Prod.fst, Es.map Prod.fst, Ps, Os⟩ :=
 ⟨nH h.rw.r1 (fun p hp => ⟨(ha p hp).1, tG (h.n1 p hp) (ha p hp).2⟩), nG h.rw.r2 (fun p hp => tG (h.n2 p hp) (he p hp)), sR h.rw.r3, sR h.rw.r4, by show (As.map Prod.fst).length <= _; rw [List.length_map]; exact l1, by show (Es.map Prod.fst).length <= _; rw [List.length_map]; exact l2, l3, l4⟩
theorem rZ : oM wX := (uR wX).1 gL
theorem nX : ∀ a ∈ wX.A, xL a.params := by
 intro a ha
 have e : wX.A = [⟨[97], 2, [2]⟩, ⟨[98], 8, []⟩] := rfl
 rw [e] at ha
 rcases List.mem_cons.1 ha with rfl | ha
 ·exact ⟨iZ (by decide), by decide⟩
 rw [List.mem_singleton.1 ha]; exact lV
theorem nW : ∀ e ∈ wX.E, xL e.start := by
 intro a ha
 have e : wX.E = [⟨0, 0, 1, 0, [7]⟩] := rfl
 rw [e] at ha
 rw [List.mem_singleton.1 ha]
 exact ⟨iZ (by decide), by decide⟩
theorem ZC (g : GG) (hS : oM g) (a1 a2 a3 a4 : Option Addr) (c1 c2 c3 c4 : Nat) (w : World) (h : sH w a1 a2 a3 a4 g) :
 Calls Try.prog 26 #[.agg #[.string (zW g.name), .slice a1 g.A.length c1, .slice a2 g.E.length c2, .slice a3 g.ins.length c3, .slice a4 g.outs.length c4]] w fun e w' => ∃ a c M, e = .returned (.tuple #[.agg #[.string (zW g.name), .slice a M.length c], .int .i64 0]) /\ M.map Prod.fst = tK g /\ rA w.heap.size w' (.slice a M.length c) M /\ Below w.heap.size w w' := by
 refine (ZO g a1 a2 a3 a4 c1 c2 c3 c4 w h).mono fun e w' q => ?_
 unfold tX at q
 rw [if_pos ((uR g).2 hS)] at q
 exact q
theorem gK (w : World) (a : Option Addr) (c : Nat) (M : List (yO × Value)) (hM : M.map Prod.fst = tK wX) {B : Nat} (hI : rA B w (.slice a M.length c) M) :
 Calls Try.prog 6 #[.agg #[.string ⟨#[103]⟩, .slice a M.length c]] w fun e w' => ∃ x1 x2 x3 x4 d1 d2 d3 d4, e = .returned (.tuple #[.agg #[.string ⟨#[103]⟩, .slice x1 2 d1, .slice x2 1 d2, .slice x3 1 d3, .slice x4 1 d4], .agg #[.int .i64 0, .int .i64 0]]) /\ sH w' x1 x2 x3 x4 wX /\ Below w.heap.size w w' := by
 have hl : M.length <= 160 := by have e := congrArg List.length hM; rw [List.length_map] at e; rw [e]; exact ZD wX rZ
 have hi := bW hI (by rw [hM]; exact eQ rZ nX nW)
 have r := jX [103] a M.length c M w rfl hi.1 hi.2 (by omega)
 rw [hM] at r
 refine r.mono fun e w' he => ?_
 unfold oJ at he
 rw [eS, if_pos rfl] at he
 obtain ⟨v1, v2, v3, v4, As, Es, rfl, hG, hA, hE, nA, nE, hb⟩ := he
 have l1 : As.length = 2 := by have e := congrArg List.length hA; rw [List.length_map] at e; exact e
 have l2 : Es.length = 1 := by have e := congrArg List.length hE; rw [List.length_map] at e; exact e
 have s1 := zC hG.rw.r1
 have s2 := zC hG.rw.r2
 have s3 := zC hG.rw.r3
 have s4 := zC hG.rw.r4
 obtain ⟨x1, d1, rfl⟩ := s1
 obtain ⟨x2, d2, rfl⟩ := s2
 obtain ⟨x3, d3, rfl⟩ := s3
 obtain ⟨x4, d4, rfl⟩ := s4
 have g := hG.gr (nm := [103]) nA nE (by omega) (by omega) (by show 1 <= 1000000000000000; decide) (by show 1 <= 1000000000000000; decide)
 rw [hA, hE] at g
 refine ⟨x1, x2, x3, x4, d1, d2, d3, d4, ?_, g, hb⟩
 rw [l1, l2]
 rfl
theorem lU (g : GG) (cd : Int) (hc : (yZ g).code = cd) (a1 a2 a3 a4 : Option Addr) (c1 c2 c3 c4 : Nat) (w : World) (h : sH w a1 a2 a3 a4 g) :
 Calls Try.prog 27 #[.agg #[.string (zW g.name), .slice a1 g.A.length c1, .slice a2 g.E.length c2, .slice a3 g.ins.length c3, .slice a4 g.outs.length c4]] w fun e w' => e = .returned (.int .i64 cd) /\ Below w.heap.size w w' := by
 rw [<- hc]
 exact kD g a1 a2 a3 a4 c1 c2 c3 c4 w h
theorem rA.cell2 {B : Nat} {w : World} {a : Option Addr} {c : Nat} {M : List (yO × Value)} (h : rA B w (.slice a M.length c) M) (h0 : 0 < M.length) : ∃ g, a = some ⟨g, 0, none⟩ /\ w.cell? ⟨g, 2, none⟩ = some (.string (zW (yV M 0).1.tag)) := by
 rcases h.at5.lie with e | ⟨g, off, e, hc⟩
 ·rw [e] at h0; exact absurd h0 (Nat.not_lt_zero _)
 obtain ⟨g', e', -⟩ := tJ h.row h0
 have c2 := (hc 0 h0).c2
 rw [e'] at e
 cases e
 exact ⟨g, e', c2⟩
theorem TR (w : World) : Calls Try.prog 10 #[] w fun e w' => e = .returned (.bool true) /\ Below w.heap.size w w' := by
 have SM : Hid (∀ U, Calls Try.prog 25 #[] U fun e w' => e = .returned (.agg #[.string ⟨#[103]⟩, .slice (some ⟨U.heap.size + 2, 0, none⟩) 2 2, .slice (some ⟨U.heap.size + 4, 0, none⟩) 1 1, .slice (some ⟨U.heap.size + 5, 0, none⟩) 1 1, .slice (some ⟨U.heap.size + 6, 0, none⟩) 1 1]) /\ jA U.heap.size 0 w' /\ Below U.heap.size U w') := fun U => bX U
 go_enter Try.func10, Try.ntmps10
 go_upto_region 2 with (go_at_call 25; (with_reducible refine (SM.out _).mono ?_); rintro e w1 ⟨rfl, s1, b1⟩; have S1 := zZ s1; have B1 := zZ b1; clear s1 b1)
 have bv := (Below.refl w1.heap.size w1).alloc (Nat.le_refl _) (.cells #[.string ⟨#[103]⟩, .slice (some ⟨w.heap.size + 2, 0, none⟩) 2 2, .slice (some ⟨w.heap.size + 4, 0, none⟩) 1 1, .slice (some ⟨w.heap.size + 5, 0, none⟩) 1 1, .slice (some ⟨w.heap.size + 6, 0, none⟩) 1 1] 31)
 have X1 := zZ (zU 31 w1 #[.string ⟨#[103]⟩, .slice (some ⟨w.heap.size + 2, 0, none⟩) 2 2, .slice (some ⟨w.heap.size + 4, 0, none⟩) 1 1, .slice (some ⟨w.heap.size + 5, 0, none⟩) 1 1, .slice (some ⟨w.heap.size + 6, 0, none⟩) 1 1])
 have SV := zZ (S1.out.below bv)
 have BV1 := zZ (B1.out.trans (bv.mono B1.out.size))
 clear bv S1 B1
 generalize hb1 : w1.heap.size = t1 at *
 generalize w1.alloc (.cells #[.string ⟨#[103]⟩, .slice (some ⟨w.heap.size + 2, 0, none⟩) 2 2, .slice (some ⟨w.heap.size + 4, 0, none⟩) 1 1, .slice (some ⟨w.heap.size + 5, 0, none⟩) 1 1, .slice (some ⟨w.heap.size + 6, 0, none⟩) 1 1] 31) = V1 at *
 have p0 : V1.cell? ⟨t1, 0, none⟩ = some (.string ⟨#[103]⟩) := X1.out.cell rfl
 have p1 : V1.cell? ⟨t1, 1, none⟩ = some (.slice (some ⟨w.heap.size + 2, 0, none⟩) 2 2) := X1.out.cell rfl
 have p2 : V1.cell? ⟨t1, 2, none⟩ = some (.slice (some ⟨w.heap.size + 4, 0, none⟩) 1 1) := X1.out.cell rfl
 have p3 : V1.cell? ⟨t1, 3, none⟩ = some (.slice (some ⟨w.heap.size + 5, 0, none⟩) 1 1) := X1.out.cell rfl
 have p4 : V1.cell? ⟨t1, 4, none⟩ = some (.slice (some ⟨w.heap.size + 6, 0, none⟩) 1 1) := X1.out.cell rfl
 have DR : Hid (Calls Try.prog 26 #[.agg #[.string ⟨#[103]⟩, .slice (some ⟨w.heap.size + 2, 0, none⟩) 2 2, .slice (some ⟨w.heap.size + 4, 0, none⟩) 1 1, .slice (some ⟨w.heap.size + 5, 0, none⟩) 1 1, .slice (some ⟨w.heap.size + 6, 0, none⟩) 1 1]] V1 fun e w' => ∃ a c M, e = .returned (.tuple #[.agg #[.string ⟨#[103]⟩, .slice a M.length c], .int .i64 0]) /\ M.map Prod.fst = tK wX /\ rA V1.heap.size w' (.slice a M.length c) M /\ Below V1.heap.size V1 w') := ZC wX rZ _ _ _ _ 2 1 1 1 V1 SV.out.gr
 clear hb1
 go_upto_region 3 with (go_at_call 26; (with_reducible refine DR.out.mono ?_); rintro e w2 ⟨ia, ic, M, rfl, hM, hI, b2⟩; have HM := zZ hM; have HI := zZ hI; have B2 := zZ b2; clear hM hI b2 p0 p1 p2 p3 p4)
 have bv := (Below.refl w2.heap.size w2).alloc (Nat.le_refl _) (.cells #[.string ⟨#[103]⟩, .slice ia M.length ic] 24)
 have e12 := B2.out.trans (bv.mono B2.out.size)
 have X2 := zZ (X1.out.below e12)
 have S2 := zZ (SV.out.below e12)
 have Y2 := zZ (zU 24 w2 #[.string ⟨#[103]⟩, .slice ia M.length ic])
 have I2 := zZ (HI.out.below bv)
 have BV2 := zZ (BV1.out.trans (e12.mono BV1.out.size))
 have HML : Hid (M.length = 5) := by show _ = _; have e := congrArg List.length HM.out; rw [List.length_map] at e; rw [e]; exact lW.1
 have HMT : Hid ((yV M 0).1.tag = [117, 112]) := by show _ = _; rw [<- gM (by have := HML.out; omega), HM.out]; exact lW.2
 clear bv e12 B2 HI X1 SV BV1 DR
 generalize hb2 : w2.heap.size = t2 at *
 generalize hV2 : w2.alloc (.cells #[.string ⟨#[103]⟩, .slice ia M.length ic] 24) = V2 at *
 clear hb2 hV2
 have p0 : V2.cell? ⟨t2, 0, none⟩ = some (.string ⟨#[103]⟩) := Y2.out.cell rfl
 have p1 : V2.cell? ⟨t2, 1, none⟩ = some (.slice ia M.length ic) := Y2.out.cell rfl
 have BL := zZ (gK V2 ia ic M HM.out I2.out)
 go_upto_region 4 with (go_at_call 6; (with_reducible refine BL.out.mono ?_); rintro e w3 ⟨x1, x2, x3, x4, d1, d2, d3, d4, rfl, hG, b3⟩; have HG3 := zZ hG; have B3 := zZ b3; clear hG b3 p0 p1)
 have bv := ((Below.refl w3.heap.size w3).alloc (Nat.le_refl _) (.cells #[.string ⟨#[103]⟩, .slice x1 2 d1, .slice x2 1 d2, .slice x3 1 d3, .slice x4 1 d4] 31)).alloc (by simp) (.cells #[.int .i64 0, .int .i64 0] 34)
 have e23 := B3.out.trans (bv.mono B3.out.size)
 have X3 := zZ (X2.out.below e23)
 have S3 := zZ (S2.out.below e23)
 have Y3 := zZ (Y2.out.below e23)
 have I3 := zZ (I2.out.below e23)
 have G3 := zZ (HG3.out.below bv)
 have H3 := zZ ((zU 31 w3 #[.string ⟨#[103]⟩, .slice x1 2 d1, .slice x2 1 d2, .slice x3 1 d3, .slice x4 1 d4]).below ((Below.refl _ _).alloc (Nat.le_refl _) (.cells #[.int .i64 0, .int .i64 0] 34)))
 have F3 : Hid (zN 34 (w3.heap.size + 1) ((w3.alloc (.cells #[.string ⟨#[103]⟩, .slice x1 2 d1, .slice x2 1 d2, .slice x3 1 d3, .slice x4 1 d4] 31)).alloc (.cells #[.int .i64 0, .int .i64 0] 34)) #[.int .i64 0, .int .i64 0]) := by
  have q := zU 34 (w3.alloc (.cells #[.string ⟨#[103]⟩, .slice x1 2 d1, .slice x2 1 d2, .slice x3 1 d3, .slice x4 1 d4] 31)) #[.int .i64 0, .int .i64 0]
  rw [World.size_alloc] at q
  exact q
 have BV3 := zZ (BV2.out.trans (e23.mono BV2.out.size))
 clear bv e23 B3 HG3 X2 S2 Y2 I2 BV2 BL
 generalize hb3 : w3.heap.size = t4 at *
 generalize hV3 : (w3.alloc (.cells #[.string ⟨#[103]⟩, .slice x1 2 d1, .slice x2 1 d2, .slice x3 1 d3, .slice x4 1 d4] 31)).alloc (.cells #[.int .i64 0, .int .i64 0] 34) = V3 at *
 clear hb3 hV3
 go_upto_region 5 with (go_at_call 25; (with_reducible refine (SM.out _).mono ?_); rintro e w4 ⟨rfl, s1, b1⟩; have SB4 := zZ s1; have B4 := zZ b1; clear s1 b1)
 obtain ⟨u4, HU4⟩ : ∃ q, Hid (V3.heap.size = q) := ⟨_, zZ rfl⟩
 have bv := (Below.refl w4.heap.size w4).alloc (Nat.le_refl _) (.cells #[.string ⟨#[103]⟩, .slice (some ⟨V3.heap.size + 2, 0, none⟩) 2 2, .slice (some ⟨V3.heap.size + 4, 0, none⟩) 1 1, .slice (some ⟨V3.heap.size + 5, 0, none⟩) 1 1, .slice (some ⟨V3.heap.size + 6, 0, none⟩) 1 1] 31)
 have X4 := zZ (zU 31 w4 #[.string ⟨#[103]⟩, .slice (some ⟨V3.heap.size + 2, 0, none⟩) 2 2, .slice (some ⟨V3.heap.size + 4, 0, none⟩) 1 1, .slice (some ⟨V3.heap.size + 5, 0, none⟩) 1 1, .slice (some ⟨V3.heap.size + 6, 0, none⟩) 1 1])
 have SC4 := zZ (SB4.out.below bv)
 have c2 : (w4.alloc (.cells #[.string ⟨#[103]⟩, .slice (some ⟨V3.heap.size + 2, 0, none⟩) 2 2, .slice (some ⟨V3.heap.size + 4, 0, none⟩) 1 1, .slice (some ⟨V3.heap.size + 5, 0, none⟩) 1 1, .slice (some ⟨V3.heap.size + 6, 0, none⟩) 1 1] 31)).cell? ⟨w4.heap.size, 2, none⟩ = some (.slice (some ⟨V3.heap.size + 4, 0, none⟩) 1 1) := X4.out.cell rfl
 have ce := SC4.out.ed.cell (k := 3) rfl
 have cf := SC4.out.ed.frozen 3
 have n46 : Hid (V3.heap.size + 4 ≠ w4.heap.size) := Nat.ne_of_lt SB4.out.ed.lt
 have T4 : Hid (Below V3.heap.size V3 ((w4.alloc (.cells #[.string ⟨#[103]⟩, .slice (some ⟨V3.heap.size + 2, 0, none⟩) 2 2, .slice (some ⟨V3.heap.size + 4, 0, none⟩) 1 1, .slice (some ⟨V3.heap.size + 5, 0, none⟩) 1 1, .slice (some ⟨V3.heap.size + 6, 0, none⟩) 1 1] 31)).setCell ⟨V3.heap.size + 4, 3, none⟩ (.int .i64 1))) := by
  have q := B4.out.trans (bv.mono B4.out.size)
  exact q.setCell (p := ⟨V3.heap.size + 4, 3, none⟩) (Nat.le_add_right _ 4) _
 have XC4 : Hid (zN 31 w4.heap.size ((w4.alloc (.cells #[.string ⟨#[103]⟩, .slice (some ⟨V3.heap.size + 2, 0, none⟩) 2 2, .slice (some ⟨V3.heap.size + 4, 0, none⟩) 1 1, .slice (some ⟨V3.heap.size + 5, 0, none⟩) 1 1, .slice (some ⟨V3.heap.size + 6, 0, none⟩) 1 1] 31)).setCell ⟨V3.heap.size + 4, 3, none⟩ (.int .i64 1)) #[.string ⟨#[103]⟩, .slice (some ⟨V3.heap.size + 2, 0, none⟩) 2 2, .slice (some ⟨V3.heap.size + 4, 0, none⟩) 1 1, .slice (some ⟨V3.heap.size + 5, 0, none⟩) 1 1, .slice (some ⟨V3.heap.size + 6, 0, none⟩) 1 1]) := X4.out.keep (Below.heap_setCell _ ⟨V3.heap.size + 4, 3, none⟩ _ _ (Ne.symm n46.out))
 have SE4 := zZ (SC4.out.set 1)
 clear bv SB4 B4 SC4 X4 n46
 generalize hV4 : w4.alloc (.cells #[.string ⟨#[103]⟩, .slice (some ⟨V3.heap.size + 2, 0, none⟩) 2 2, .slice (some ⟨V3.heap.size + 4, 0, none⟩) 1 1, .slice (some ⟨V3.heap.size + 5, 0, none⟩) 1 1, .slice (some ⟨V3.heap.size + 6, 0, none⟩) 1 1] 31) = V4 at *
 generalize hb4 : w4.heap.size = t6 at *
 clear hV4 hb4
 go_upto_region 6 with fail
 generalize hW4 : V4.setCell ⟨V3.heap.size + 4, 3, none⟩ (.int .i64 1) = W4 at *
 clear hW4 c2 ce cf
 have X5 := zZ (X3.out.below T4.out)
 have S5 := zZ (S3.out.below T4.out)
 have Y5 := zZ (Y3.out.below T4.out)
 have I5 := zZ (I3.out.below T4.out)
 have G5 := zZ (G3.out.below T4.out)
 have H5 := zZ (H3.out.below T4.out)
 have F5 := zZ (F3.out.below T4.out)
 have BV5 := zZ (BV3.out.trans (T4.out.mono BV3.out.size))
 clear X3 S3 Y3 I3 G3 H3 F3 BV3 T4
 rw [HU4.out] at XC4 SE4
 go_upto_region 7 with (go_at_call 25; (with_reducible refine (SM.out _).mono ?_); rintro e w5 ⟨rfl, s1, b1⟩; have SB5 := zZ s1; have B5 := zZ b1; clear s1 b1)
 obtain ⟨u5, HU5⟩ : ∃ q, Hid (W4.heap.size = q) := ⟨_, zZ rfl⟩
 have bv := (Below.refl w5.heap.size w5).alloc (Nat.le_refl _) (.cells #[.string ⟨#[103]⟩, .slice (some ⟨W4.heap.size + 2, 0, none⟩) 2 2, .slice (some ⟨W4.heap.size + 4, 0, none⟩) 1 1, .slice (some ⟨W4.heap.size + 5, 0, none⟩) 1 1, .slice (some ⟨W4.heap.size + 6, 0, none⟩) 1 1] 31)
 have X6 := zZ (zU 31 w5 #[.string ⟨#[103]⟩, .slice (some ⟨W4.heap.size + 2, 0, none⟩) 2 2, .slice (some ⟨W4.heap.size + 4, 0, none⟩) 1 1, .slice (some ⟨W4.heap.size + 5, 0, none⟩) 1 1, .slice (some ⟨W4.heap.size + 6, 0, none⟩) 1 1])
 have SC5 := zZ (SB5.out.below bv)
 have c4 := X6.out.cell (k := 4) rfl
 have f4 := X6.out.frozen 4
 have T5 : Hid (Below W4.heap.size W4 ((w5.alloc (.cells #[.string ⟨#[103]⟩, .slice (some ⟨W4.heap.size + 2, 0, none⟩) 2 2, .slice (some ⟨W4.heap.size + 4, 0, none⟩) 1 1, .slice (some ⟨W4.heap.size + 5, 0, none⟩) 1 1, .slice (some ⟨W4.heap.size + 6, 0, none⟩) 1 1] 31)).setCell ⟨w5.heap.size, 4, none⟩ (.slice none 0 0))) := by
  have q := B5.out.trans (bv.mono B5.out.size)
  exact q.setCell (p := ⟨w5.heap.size, 4, none⟩) B5.out.size _
 have XC5 : Hid (zN 31 w5.heap.size ((w5.alloc (.cells #[.string ⟨#[103]⟩, .slice (some ⟨W4.heap.size + 2, 0, none⟩) 2 2, .slice (some ⟨W4.heap.size + 4, 0, none⟩) 1 1, .slice (some ⟨W4.heap.size + 5, 0, none⟩) 1 1, .slice (some ⟨W4.heap.size + 6, 0, none⟩) 1 1] 31)).setCell ⟨w5.heap.size, 4, none⟩ (.slice none 0 0)) #[.string ⟨#[103]⟩, .slice (some ⟨W4.heap.size + 2, 0, none⟩) 2 2, .slice (some ⟨W4.heap.size + 4, 0, none⟩) 1 1, .slice (some ⟨W4.heap.size + 5, 0, none⟩) 1 1, .slice none 0 0]) := X6.out.set 4 _
 have SE5 : Hid (jA W4.heap.size 0 ((w5.alloc (.cells #[.string ⟨#[103]⟩, .slice (some ⟨W4.heap.size + 2, 0, none⟩) 2 2, .slice (some ⟨W4.heap.size + 4, 0, none⟩) 1 1, .slice (some ⟨W4.heap.size + 5, 0, none⟩) 1 1, .slice (some ⟨W4.heap.size + 6, 0, none⟩) 1 1] 31)).setCell ⟨w5.heap.size, 4, none⟩ (.slice none 0 0))) := by
  have h := SC5.out
  have l := SB5.out
  have st : ∀ k, k < w5.heap.size -> ((w5.alloc (.cells #[.string ⟨#[103]⟩, .slice (some ⟨W4.heap.size + 2, 0, none⟩) 2 2, .slice (some ⟨W4.heap.size + 4, 0, none⟩) 1 1, .slice (some ⟨W4.heap.size + 5, 0, none⟩) 1 1, .slice (some ⟨W4.heap.size + 6, 0, none⟩) 1 1] 31)).setCell ⟨w5.heap.size, 4, none⟩ (.slice none 0 0)).heap[k]? = (w5.alloc (.cells #[.string ⟨#[103]⟩, .slice (some ⟨W4.heap.size + 2, 0, none⟩) 2 2, .slice (some ⟨W4.heap.size + 4, 0, none⟩) 1 1, .slice (some ⟨W4.heap.size + 5, 0, none⟩) 1 1, .slice (some ⟨W4.heap.size + 6, 0, none⟩) 1 1] 31)).heap[k]? := fun k hk => Below.heap_setCell _ ⟨w5.heap.size, 4, none⟩ _ k (Nat.ne_of_lt hk)
  exact ⟨h.i2.keep (st _ l.i2.lt), h.ac.keep (st _ l.ac.lt), h.i7.keep (st _ l.i7.lt), h.ed.keep (st _ l.ed.lt), h.pi.keep (st _ l.pi.lt), h.po.keep (st _ l.po.lt)⟩
 clear bv SB5 B5 SC5 X6
 generalize hV5 : w5.alloc (.cells #[.string ⟨#[103]⟩, .slice (some ⟨W4.heap.size + 2, 0, none⟩) 2 2, .slice (some ⟨W4.heap.size + 4, 0, none⟩) 1 1, .slice (some ⟨W4.heap.size + 5, 0, none⟩) 1 1, .slice (some ⟨W4.heap.size + 6, 0, none⟩) 1 1] 31) = V5 at *
 generalize hb5 : w5.heap.size = t7 at *
 clear hV5 hb5
 go_upto_region 8 with fail
 generalize hW5 : V5.setCell ⟨t7, 4, none⟩ (.slice none 0 0) = W5 at *
 clear hW5 c4 f4
 have X7 := zZ (X5.out.below T5.out)
 have S7 := zZ (S5.out.below T5.out)
 have Y7 := zZ (Y5.out.below T5.out)
 have I7 := zZ (I5.out.below T5.out)
 have G7 := zZ (G5.out.below T5.out)
 have H7 := zZ (H5.out.below T5.out)
 have F7 := zZ (F5.out.below T5.out)
 have XB7 := zZ (XC4.out.below T5.out)
 have SB7 := zZ (SE4.out.below T5.out)
 have BV7 := zZ (BV5.out.trans (T5.out.mono BV5.out.size))
 clear X5 S5 Y5 I5 G5 H5 F5 BV5 T5 XC4 SE4
 rw [HU5.out] at XC5 SE5
 have CK1 : Hid (Calls Try.prog 27 #[.agg #[.string ⟨#[103]⟩, .slice (some ⟨w.heap.size + 2, 0, none⟩) 2 2, .slice (some ⟨w.heap.size + 4, 0, none⟩) 1 1, .slice (some ⟨w.heap.size + 5, 0, none⟩) 1 1, .slice (some ⟨w.heap.size + 6, 0, none⟩) 1 1]] W5 fun e w' => e = .returned (.int .i64 0) /\ Below W5.heap.size W5 w') := lU wX 0 gL _ _ _ _ 2 1 1 1 W5 S7.out.gr
 have CK2 : Hid (∀ U, Below W5.heap.size W5 U -> Calls Try.prog 27 #[.agg #[.string ⟨#[103]⟩, .slice (some ⟨u4 + 2, 0, none⟩) 2 2, .slice (some ⟨u4 + 4, 0, none⟩) 1 1, .slice (some ⟨u4 + 5, 0, none⟩) 1 1, .slice (some ⟨u4 + 6, 0, none⟩) 1 1]] U fun e w' => e = .returned (.int .i64 85) /\ Below U.heap.size U w') := fun U hb => lU (qA 1 [⟨[121], 1, 0⟩]) 85 bY _ _ _ _ 2 1 1 1 U (SB7.out.below hb).gr
 have CK3 : Hid (∀ U, Below W5.heap.size W5 U -> Calls Try.prog 27 #[.agg #[.string ⟨#[103]⟩, .slice (some ⟨u5 + 2, 0, none⟩) 2 2, .slice (some ⟨u5 + 4, 0, none⟩) 1 1, .slice (some ⟨u5 + 5, 0, none⟩) 1 1, .slice none 0 0]] U fun e w' => e = .returned (.int .i64 87) /\ Below U.heap.size U w') := fun U hb => lU (qA 0 []) 87 eT _ _ _ _ 2 1 1 0 U (SE5.out.below hb).grOpen
 have SG : Hid (∀ U, Below W5.heap.size W5 U -> Calls Try.prog 8 #[.agg #[.string ⟨#[103]⟩, .slice (some ⟨w.heap.size + 2, 0, none⟩) 2 2, .slice (some ⟨w.heap.size + 4, 0, none⟩) 1 1, .slice (some ⟨w.heap.size + 5, 0, none⟩) 1 1, .slice (some ⟨w.heap.size + 6, 0, none⟩) 1 1], .agg #[.string ⟨#[103]⟩, .slice x1 2 d1, .slice x2 1 d2, .slice x3 1 d3, .slice x4 1 d4]] U fun e w' => e = .returned (.bool true) /\ Below U.heap.size U w') := fun U hb => by
  have g1 := (S7.out.below hb).gr
  have g2 := G7.out.below hb
  exact qM wX _ _ _ _ x1 x2 x3 x4 2 1 1 1 d1 d2 d3 d4 U g1.A.at g1.E.at g1.I g1.O g2.A.at g2.E.at g2.I g2.O g1.l1 g1.l2 g1.l3 g1.l4 (fun x hx => by have := (nX x hx).2; omega) (fun x hx => by have := (nW x hx).2; omega)
 have p0 : W5.cell? ⟨t1, 0, none⟩ = some (.string ⟨#[103]⟩) := X7.out.cell rfl
 have p1 : W5.cell? ⟨t1, 1, none⟩ = some (.slice (some ⟨w.heap.size + 2, 0, none⟩) 2 2) := X7.out.cell rfl
 have p2 : W5.cell? ⟨t1, 2, none⟩ = some (.slice (some ⟨w.heap.size + 4, 0, none⟩) 1 1) := X7.out.cell rfl
 have p3 : W5.cell? ⟨t1, 3, none⟩ = some (.slice (some ⟨w.heap.size + 5, 0, none⟩) 1 1) := X7.out.cell rfl
 have p4 : W5.cell? ⟨t1, 4, none⟩ = some (.slice (some ⟨w.heap.size + 6, 0, none⟩) 1 1) := X7.out.cell rfl
 have HX : Hid (∀ U, Below W5.heap.size W5 U -> (U.cell? ⟨t6, 0, none⟩ = some (.string ⟨#[103]⟩) /\ U.cell? ⟨t6, 1, none⟩ = some (.slice (some ⟨u4 + 2, 0, none⟩) 2 2) /\ U.cell? ⟨t6, 2, none⟩ = some (.slice (some ⟨u4 + 4, 0, none⟩) 1 1) /\ U.cell? ⟨t6, 3, none⟩ = some (.slice (some ⟨u4 + 5, 0, none⟩) 1 1) /\ U.cell? ⟨t6, 4, none⟩ = some (.slice (some ⟨u4 + 6, 0, none⟩) 1 1))) := fun U hb => by
  have q := XB7.out.below hb
  exact ⟨q.cell rfl, q.cell rfl, q.cell rfl, q.cell rfl, q.cell rfl⟩
 have HY : Hid (∀ U, Below W5.heap.size W5 U -> (U.cell? ⟨t7, 0, none⟩ = some (.string ⟨#[103]⟩) /\ U.cell? ⟨t7, 1, none⟩ = some (.slice (some ⟨u5 + 2, 0, none⟩) 2 2) /\ U.cell? ⟨t7, 2, none⟩ = some (.slice (some ⟨u5 + 4, 0, none⟩) 1 1) /\ U.cell? ⟨t7, 3, none⟩ = some (.slice (some ⟨u5 + 5, 0, none⟩) 1 1) /\ U.cell? ⟨t7, 4, none⟩ = some (.slice none 0 0))) := fun U hb => by
  have q := XC5.out.below hb
  exact ⟨q.cell rfl, q.cell rfl, q.cell rfl, q.cell rfl, q.cell rfl⟩
 go_upto_region 9 with (first
  | (go_at_call 27; (with_reducible refine (CK3.out _ B7.out).mono ?_); rintro e w8 ⟨rfl, b8⟩; have B8 := zZ (B7.out.trans (b8.mono B7.out.size)); clear b8 r0 r1 r2 r3 r4)
  | (go_at_call 27; (with_reducible refine (CK2.out _ B6.out).mono ?_); rintro e w7 ⟨rfl, b7⟩; have B7 := zZ (B6.out.trans (b7.mono B6.out.size)); obtain ⟨r0, r1, r2, r3, r4⟩ := HY.out _ B7.out; clear b7 q0 q1 q2 q3 q4)
  | (go_at_call 27; (with_reducible refine CK1.out.mono ?_); rintro e w6 ⟨rfl, b6⟩; have B6 := zZ b6; obtain ⟨q0, q1, q2, q3, q4⟩ := HX.out _ b6; clear b6 p0 p1 p2 p3 p4))
 have X9 := X7.out.below B8.out
 have H9 := H7.out.below B8.out
 have p0 : w8.cell? ⟨t1, 0, none⟩ = some (.string ⟨#[103]⟩) := X9.cell rfl
 have p1 : w8.cell? ⟨t1, 1, none⟩ = some (.slice (some ⟨w.heap.size + 2, 0, none⟩) 2 2) := X9.cell rfl
 have p2 : w8.cell? ⟨t1, 2, none⟩ = some (.slice (some ⟨w.heap.size + 4, 0, none⟩) 1 1) := X9.cell rfl
 have p3 : w8.cell? ⟨t1, 3, none⟩ = some (.slice (some ⟨w.heap.size + 5, 0, none⟩) 1 1) := X9.cell rfl
 have p4 : w8.cell? ⟨t1, 4, none⟩ = some (.slice (some ⟨w.heap.size + 6, 0, none⟩) 1 1) := X9.cell rfl
 have q0 : w8.cell? ⟨t4, 0, none⟩ = some (.string ⟨#[103]⟩) := H9.cell rfl
 have q1 : w8.cell? ⟨t4, 1, none⟩ = some (.slice x1 2 d1) := H9.cell rfl
 have q2 : w8.cell? ⟨t4, 2, none⟩ = some (.slice x2 1 d2) := H9.cell rfl
 have q3 : w8.cell? ⟨t4, 3, none⟩ = some (.slice x3 1 d3) := H9.cell rfl
 have q4 : w8.cell? ⟨t4, 4, none⟩ = some (.slice x4 1 d4) := H9.cell rfl
 have y1 : w8.cell? ⟨t2, 1, none⟩ = some (.slice ia M.length ic) := (Y7.out.below B8.out).cell rfl
 have z0 : w8.cell? ⟨t4 + 1, 0, none⟩ = some (.int .i64 0) := (F7.out.below B8.out).cell rfl
 have z1 : w8.cell? ⟨t4 + 1, 1, none⟩ = some (.int .i64 0) := (F7.out.below B8.out).cell rfl
 obtain ⟨ig, rfl, it⟩ := (I7.out.below B8.out).cell2 (by have := HML.out; omega)
 rw [HMT.out] at it
 have it' : w8.cell? ⟨ig, 2, none⟩ = some (.string ⟨#[117, 112]⟩) := it
 have hml := HML.out
 rw [hml] at y1
 have SG9 := zZ (SG.out w8 B8.out)
 clear X9 H9 it CK1 CK2 CK3 SG HX HY
 go_wp2_with (go_at_call 8; (with_reducible refine SG9.out.mono ?_); rintro e w9 ⟨rfl, b9⟩; have B9 := zZ (B8.out.trans (b9.mono B8.out.size)); clear b9)
 go_ret
 exact ⟨rfl, BV7.out.trans (B9.out.mono BV7.out.size)⟩
end Go.Proofs.Ytgoconkleicmkaa

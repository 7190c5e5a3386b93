/- Texts of one chain, laid one behind the other. -/
import Derived.Test.YtgflileajamonaaPartGraphBuilds28
namespace Go.Proofs.Ytgflileajamonaa
open Go.ChangeShapes Go.WideShapes Go.ChangeAt Go.RowKit
theorem mark_storeW {w : World} {o : Oper} {ρ : Operand → Value} (ty : TypeId) (x y : Operand) (ho : o.op = .store ty x y) (b : Nat) (S : TypeId) (old cells : Array Value) (hx : ρ x = .pointer (some ⟨b, 0, none⟩)) (hy : ρ y = .agg cells) (hB : BlkA S b w old) (hi : (Try.prog.info? ty).map (·.size) = some cells.size) (hold : old.size = cells.size) (h1 : cells.toList.all (·.oneCell') = true)
    {Q : World → Value → Prop} (h : ∀ w', BlkA S b w' cells → But b w w' → Q w' undef) : markUpon Try.prog w Q ((execOp ρ o).run Try.prog w) := by
  have hr := run_storeVar_row (P := Try.prog) w b S ty old cells hB hi hold (by rw [← Array.all_toList]; exact h1)
  unfold execOp
  simp only [ho, hx, hy, Instr.storeAt, Instr.sureAddr, Sem.run_bind, Sem.run_pure, Result.andThen_ok, hr]
  exact h _ (setRow_heap w b old cells S _ hB) (setRow_but w b cells)
/-- The boxes of graph.Build: the sketch, the graph that is answered, the fault that is answered. -/
structure Bx (w : World) (sk gz uz : Array Value) (u : World) : Prop where
  s : BlkA 24 w.heap.size u sk
  g : BlkA 31 (w.heap.size + 1) u gz
  f : BlkA 34 (w.heap.size + 2) u uz
  bel : Below w.heap.size w u
theorem Bx.below {w sk gz uz} {u u' : World} (h : Bx w sk gz uz u) (hb : Below u.heap.size u u') : Bx w sk gz uz u' := ⟨h.s.below hb, h.g.below hb, h.f.below hb, h.bel.trans (hb.mono h.bel.size)⟩
theorem Bx.setG {w sk gz uz gz'} {u u' : World} (h : Bx w sk gz uz u) (hB : BlkA 31 (w.heap.size + 1) u' gz') (hU : But (w.heap.size + 1) u u') : Bx w sk gz' uz u' :=
  ⟨h.s.keep (hU.block _ h.s.lt (by omega)), hB, h.f.keep (hU.block _ h.f.lt (by omega)), h.bel.trans (hU.below (Nat.le_succ _) h.bel.size)⟩
theorem Bx.setF {w sk gz uz uz'} {u u' : World} (h : Bx w sk gz uz u) (hB : BlkA 34 (w.heap.size + 2) u' uz') (hU : But (w.heap.size + 2) u u') : Bx w sk gz uz' u' :=
  ⟨h.s.keep (hU.block _ h.s.lt (by omega)), h.g.keep (hU.block _ h.g.lt (by omega)), hB, h.bel.trans (hU.below (Nat.le_trans (Nat.le_succ _) (Nat.le_succ _)) h.bel.size)⟩
/-- What is told of a list of numbers. -/
def NumsOk (ns : List Int) : Prop := InR ns ∧ ns.length * 8 ≤ 140737488351232
/-- How the building ends. -/
def BuildE (w : World) (nm : List UInt8) (L : List Itm) (e : Ending) (w' : World) : Prop :=
  if (buildS nm L).2.1 = 0 then ∃ v1 v2 v3 v4 As Es, e = .returned (.tuple #[.agg #[.string (str nm), v1, v2, v3, v4], .agg #[.int .i64 0, .int .i64 0]]) ∧ GOwn w.heap.size w' v1 v2 v3 v4 As Es (buildS nm L).1.ins (buildS nm L).1.outs ∧ As.map Prod.fst = (buildS nm L).1.actors ∧ Es.map Prod.fst = (buildS nm L).1.edges ∧ (∀ p ∈ As, p.1.tag ≤ 255 ∧ NumsOk p.1.params) ∧ (∀ p ∈ Es, NumsOk p.1.start) ∧ Below w.heap.size w w'
  else e = .returned (.tuple #[.agg #[.string ⟨#[]⟩, .slice none 0 0, .slice none 0 0, .slice none 0 0, .slice none 0 0], .agg #[.int .i64 (buildS nm L).2.1, .int .i64 (buildS nm L).2.2]]) ∧ Below w.heap.size w w'
theorem idx_none : ∀ (L : List Itm) (i : Nat), idxG L i = -1 → ∀ x ∈ L, 1 ≤ x.kind ∧ x.kind ≤ 4
  | [], _, _, x, hx => by cases hx
  | y :: r, i, h, x, hx => by
    have e0 : idxG (y :: r) i = if lessK y = true then (i : Int) else idxG r (i + 1) := rfl
    rw [e0] at h
    by_cases hy : lessK y = true
    · rw [if_pos hy] at h; omega
    · rw [if_neg hy] at h
      rcases List.mem_cons.1 hx with rfl | hx
      · unfold lessK at hy
        simp only [Bool.or_eq_true, decide_eq_true_eq, not_or] at hy
        omega
      · exact idx_none r (i + 1) h x hx
theorem map_getD {L : List (Itm × Value)} {k : Nat} (h : k < L.length) : (L.map Prod.fst).getD k noItm = (nthI L k).1 := by
  unfold nthI
  rw [List.getD_eq_getElem?_getD, List.getElem?_map, List.getD_eq_getElem?_getD, List.getElem?_eq_getElem h]
  rfl
theorem first_number (g : GG) : (firstF g).number ≤ 96 := by
  by_cases h0 : (headF g).code = 0
  · have hh := head_ok h0
    have lp : ∀ (n i : Nat) (f : Nat → Int × Nat) (k : Nat), (loopC n i f k).number ≤ i + n := by
      intro n
      induction n with
      | zero => intro i f k; exact Nat.zero_le _
      | succ n ih =>
        intro i f k
        have e : loopC (n + 1) i f k = if (f i).1 ≠ 0 then ⟨(f i).1, k, i, (f i).2⟩ else loopC n (i + 1) f k := rfl
        rw [e]
        split
        · show i ≤ i + (n + 1); omega
        · have := ih (i + 1) f k; omega
    rw [first_find]
    unfold findS
    rw [if_neg (by rw [h0]; decide)]
    split
    · have := lp g.actors.length 0 (fun i => (actorC g i, 0)) 1; omega
    split
    · have := lp g.edges.length 0 (edgeC g) 2; omega
    split
    · have := lp g.ins.length 0 (inC g) 3; omega
    split
    · have := lp g.outs.length 0 (outC g) 4; omega
    · have := lp g.actors.length 0 (openC g) 1; omega
  · have e : firstF g = headF g := by unfold firstF; rw [if_pos h0]
    rw [e]
    unfold headF
    repeat' split
    all_goals (first | (show (0 : Nat) ≤ 96; decide) | (show (32 : Nat) ≤ 96; decide) | (show (96 : Nat) ≤ 96; decide) | (show (16 : Nat) ≤ 96; decide))
theorem Bx.moved {w sk gz uz} {u u' : World} (h : Bx w sk gz uz u) (hb : Below u.heap.size u u') : Bx w sk gz uz u' := h.below hb
theorem lul_nums {w ns L As Es Ps Os} (h : LuL w ns L As Es Ps Os) : (∀ x ∈ As.map Prod.fst, x.tag ≤ 255 ∧ NumsOk x.params) ∧ (∀ x ∈ Es.map Prod.fst, NumsOk x.start) := by
  refine ⟨fun x hx => ?_, fun x hx => ?_⟩
  · obtain ⟨p, hp, rfl⟩ := List.mem_map.1 hx
    obtain ⟨h1, y, c, -, h3⟩ := h.pa p hp
    exact ⟨h1, h3.fits, h3.reach⟩
  · obtain ⟨p, hp, rfl⟩ := List.mem_map.1 hx
    obtain ⟨y, c, -, h3⟩ := h.pe p hp
    exact ⟨h3.fits, h3.reach⟩
set_option maxRecDepth 100000 in
set_option maxHeartbeats 16000000 in
theorem build_any (nm : List UInt8) (a : Option Addr) (n c : Nat) (L : List (Itm × Value)) (w : World) (hn : L.length = n) (h : ItR w a L) (hO : ItO w L) (hl : n ≤ 2000000) :
    Calls Try.prog 6 #[.agg #[.string (str nm), .slice a n c]] w (BuildE w nm (L.map Prod.fst)) := by
  have ba := (((Below.refl w.heap.size w).alloc (Nat.le_refl _) (.cells #[.string (str nm), .slice a n c] 24)).alloc (by simp) (.cells #[.string ⟨#[]⟩, .slice none 0 0, .slice none 0 0, .slice none 0 0, .slice none 0 0] 31)).alloc (by simp; omega) (.cells #[.int .i64 0, .int .i64 0] 34)
  have B0 : Hid (Bx w #[.string (str nm), .slice a n c] #[.string ⟨#[]⟩, .slice none 0 0, .slice none 0 0, .slice none 0 0, .slice none 0 0] #[.int .i64 0, .int .i64 0] (((w.alloc (.cells #[.string (str nm), .slice a n c] 24)).alloc (.cells #[.string ⟨#[]⟩, .slice none 0 0, .slice none 0 0, .slice none 0 0, .slice none 0 0] 31)).alloc (.cells #[.int .i64 0, .int .i64 0] 34))) := by
    have sb := ((blkA_new 24 w #[.string (str nm), .slice a n c]).below ((Below.refl _ _).alloc (Nat.le_refl _) (.cells #[.string ⟨#[]⟩, .slice none 0 0, .slice none 0 0, .slice none 0 0, .slice none 0 0] 31))).below ((Below.refl _ _).alloc (Nat.le_refl _) (.cells #[.int .i64 0, .int .i64 0] 34))
    have rb : BlkA 31 (w.heap.size + 1) (((w.alloc (.cells #[.string (str nm), .slice a n c] 24)).alloc (.cells #[.string ⟨#[]⟩, .slice none 0 0, .slice none 0 0, .slice none 0 0, .slice none 0 0] 31)).alloc (.cells #[.int .i64 0, .int .i64 0] 34)) #[.string ⟨#[]⟩, .slice none 0 0, .slice none 0 0, .slice none 0 0, .slice none 0 0] := by
      have h3 := (blkA_new 31 (w.alloc (.cells #[.string (str nm), .slice a n c] 24)) #[.string ⟨#[]⟩, .slice none 0 0, .slice none 0 0, .slice none 0 0, .slice none 0 0]).below ((Below.refl _ _).alloc (Nat.le_refl _) (.cells #[.int .i64 0, .int .i64 0] 34))
      rw [World.size_alloc] at h3
      exact h3
    have gb : BlkA 34 (w.heap.size + 2) (((w.alloc (.cells #[.string (str nm), .slice a n c] 24)).alloc (.cells #[.string ⟨#[]⟩, .slice none 0 0, .slice none 0 0, .slice none 0 0, .slice none 0 0] 31)).alloc (.cells #[.int .i64 0, .int .i64 0] 34)) #[.int .i64 0, .int .i64 0] := by
      have h3 := blkA_new 34 ((w.alloc (.cells #[.string (str nm), .slice a n c] 24)).alloc (.cells #[.string ⟨#[]⟩, .slice none 0 0, .slice none 0 0, .slice none 0 0, .slice none 0 0] 31)) #[.int .i64 0, .int .i64 0]
      rw [World.size_alloc, World.size_alloc] at h3
      exact h3
    exact ⟨sb, rb, gb, ba⟩
  have IX := hiddenG (indexF_any a n c L _ hn (h.below ba) (by omega))
  have HR := hiddenG h
  have HO := hiddenG hO
  have HL := hiddenG hn
  have y1 := B0.out.s.cell (k := 1) rfl
  have hnI : (n : Int) ≤ 2000000 := by omega
  have hrg := idxG_range (L.map Prod.fst) 0
  rw [List.length_map, hn] at hrg
  obtain ⟨ix, hix⟩ : ∃ q, idxG (L.map Prod.fst) 0 = q := ⟨_, rfl⟩
  have HIX := hiddenG hix
  rw [hix] at IX hrg
  clear ba h hO hn hix
  rcases hrg with hrg | hrg
  · subst hrg
    have LU : Hid (∀ U, Below w.heap.size w U → Calls Try.prog 15 #[.agg #[.string (str nm), .slice a n c]] U (LookE U nm (L.map Prod.fst))) := fun U hb => lookUp_any nm a n c L U HL.out (HR.out.below hb) (HO.out.below hb) hl (fun p hp => idx_none _ _ HIX.out p.1 (List.mem_map_of_mem hp))
    have HBS : Hid (buildS nm (L.map Prod.fst) = if (firstF (lookS nm (L.map Prod.fst))).code ≠ 0 then (gg0, (firstF (lookS nm (L.map Prod.fst))).code, placeG (L.map Prod.fst) 0 (firstF (lookS nm (L.map Prod.fst)))) else (lookS nm (L.map Prod.fst), 0, 0)) := by
      show _ = _
      unfold buildS
      rw [HIX.out, if_neg (by decide)]
    obtain ⟨⟨fc, fk, fnr, fs⟩, hff⟩ : ∃ f, firstF (lookS nm (L.map Prod.fst)) = f := ⟨_, rfl⟩
    have HNR : fnr ≤ 96 := by have q := first_number (lookS nm (L.map Prod.fst)); rw [hff] at q; exact q
    have PL : Hid (∀ U, Below w.heap.size w U → Calls Try.prog 17 #[.agg #[.int .i64 fc, .int .u8 (fk : Int), .int .i64 (fnr : Int), .int .u8 (fs : Int)], .slice a n c] U fun e w' => e = .returned (.int .i64 (placeG (L.map Prod.fst) 0 ⟨fc, fk, fnr, fs⟩)) ∧ Below U.heap.size U w') := fun U hb => placeOf_any ⟨fc, fk, fnr, fs⟩ a n c L U HL.out (HR.out.below hb) (by omega) (by show fnr ≤ 1000; omega)
    rw [hff] at HBS
    have HFF := hiddenG hff
    clear hff
    go_enter Try.func6, Try.ntmps6
    go_upto_region 1 with fail
    generalize ((w.alloc (.cells #[.string (str nm), .slice a n c] 24)).alloc (.cells #[.string ⟨#[]⟩, .slice none 0 0, .slice none 0 0, .slice none 0 0, .slice none 0 0] 31)).alloc (.cells #[.int .i64 0, .int .i64 0] 34) = W0 at *
    go_upto_region 4 with (go_at_call 13; (with_reducible refine IX.out.mono ?_); rintro e w1 ⟨rfl, b1⟩; have B1 := hiddenG (B0.out.below b1); clear b1 y1)
    have y0 : w1.cell? ⟨w.heap.size, 0, none⟩ = some (.string (str nm)) := B1.out.s.cell rfl
    have y1 : w1.cell? ⟨w.heap.size, 1, none⟩ = some (.slice a n c) := B1.out.s.cell rfl
    have LU1 := hiddenG (LU.out w1 B1.out.bel)
    clear LU IX B0
    go_upto_region 5 with (go_at_call 15; (with_reducible refine LU1.out.mono ?_); rintro e w2 ⟨v1, v2, v3, v4, As, Es, Ps, Os, rfl, hG, hL, b2⟩; obtain ⟨x1, d1, rfl⟩ := own_slice hG.r1; obtain ⟨x2, d2, rfl⟩ := own_slice hG.r2; obtain ⟨x3, d3, rfl⟩ := own_slice hG.r3; obtain ⟨x4, d4, rfl⟩ := own_slice hG.r4; have HGR := hiddenG hG; have HLL := hiddenG hL; have B2 := hiddenG b2; clear hG hL b2 y0 y1)
    have bv := (Below.refl w2.heap.size w2).alloc (Nat.le_refl _) (.cells #[.string (str nm), .slice x1 As.length d1, .slice x2 Es.length d2, .slice x3 Ps.length d3, .slice x4 Os.length d4] 31)
    have BXV := hiddenG ((B1.out.below B2.out).below bv)
    have G5 := hiddenG (blkA_new 31 w2 #[.string (str nm), .slice x1 As.length d1, .slice x2 Es.length d2, .slice x3 Ps.length d3, .slice x4 Os.length d4])
    have z0 : (w2.alloc (.cells #[.string (str nm), .slice x1 As.length d1, .slice x2 Es.length d2, .slice x3 Ps.length d3, .slice x4 Os.length d4] 31)).cell? ⟨w2.heap.size, 0, none⟩ = some (.string (str nm)) := G5.out.cell rfl
    have z1 : (w2.alloc (.cells #[.string (str nm), .slice x1 As.length d1, .slice x2 Es.length d2, .slice x3 Ps.length d3, .slice x4 Os.length d4] 31)).cell? ⟨w2.heap.size, 1, none⟩ = some (.slice x1 As.length d1) := G5.out.cell rfl
    have z2 : (w2.alloc (.cells #[.string (str nm), .slice x1 As.length d1, .slice x2 Es.length d2, .slice x3 Ps.length d3, .slice x4 Os.length d4] 31)).cell? ⟨w2.heap.size, 2, none⟩ = some (.slice x2 Es.length d2) := G5.out.cell rfl
    have z3 : (w2.alloc (.cells #[.string (str nm), .slice x1 As.length d1, .slice x2 Es.length d2, .slice x3 Ps.length d3, .slice x4 Os.length d4] 31)).cell? ⟨w2.heap.size, 3, none⟩ = some (.slice x3 Ps.length d3) := G5.out.cell rfl
    have z4 : (w2.alloc (.cells #[.string (str nm), .slice x1 As.length d1, .slice x2 Es.length d2, .slice x3 Ps.length d3, .slice x4 Os.length d4] 31)).cell? ⟨w2.heap.size, 4, none⟩ = some (.slice x4 Os.length d4) := G5.out.cell rfl
    have hgg : (⟨nm, As.map Prod.fst, Es.map Prod.fst, Ps, Os⟩ : GG) = lookS nm (L.map Prod.fst) := by
      have q := HLL.out
      unfold lookS lookG
      rw [← q.a, ← q.e, ← q.i, ← q.o]
    have HGG := hiddenG hgg
    have hlen := HLL.out.len
    rw [List.length_map, HL.out] at hlen
    have FF : Hid (Calls Try.prog 16 #[.agg #[.string (str nm), .slice x1 As.length d1, .slice x2 Es.length d2, .slice x3 Ps.length d3, .slice x4 Os.length d4]] (w2.alloc (.cells #[.string (str nm), .slice x1 As.length d1, .slice x2 Es.length d2, .slice x3 Ps.length d3, .slice x4 Os.length d4] 31)) fun e w' => e = .returned (.agg #[.int .i64 fc, .int .u8 (fk : Int), .int .i64 (fnr : Int), .int .u8 (fs : Int)]) ∧ Below (w2.alloc (.cells #[.string (str nm), .slice x1 As.length d1, .slice x2 Es.length d2, .slice x3 Ps.length d3, .slice x4 Os.length d4] 31)).heap.size (w2.alloc (.cells #[.string (str nm), .slice x1 As.length d1, .slice x2 Es.length d2, .slice x3 Ps.length d3, .slice x4 Os.length d4] 31)) w') := by
      have gr := HGR.out.keep (w' := w2.alloc (.cells #[.string (str nm), .slice x1 As.length d1, .slice x2 Es.length d2, .slice x3 Ps.length d3, .slice x4 Os.length d4] 31)) fun k _ hk => bv.block k hk
      have b12 := B2.out.trans (bv.mono B2.out.size)
      have ga := rowA_gr gr.r1 (fun p hp => by obtain ⟨p1, x, c, p2, p3⟩ := HLL.out.pa p hp; exact ⟨p1, x, c, p2, p3.below b12⟩)
      have ge := rowE_gr gr.r2 (fun p hp => by obtain ⟨x, c, p2, p3⟩ := HLL.out.pe p hp; exact ⟨x, c, p2, p3.below b12⟩)
      have r := firstFlaw_any ⟨nm, As.map Prod.fst, Es.map Prod.fst, Ps, Os⟩ x1 x2 x3 x4 d1 d2 d3 d4 (w2.alloc (.cells #[.string (str nm), .slice x1 As.length d1, .slice x2 Es.length d2, .slice x3 Ps.length d3, .slice x4 Os.length d4] 31)) ga.at ge.at (rowP_at gr.r3) (rowP_at gr.r4) (by show (As.map Prod.fst).length ≤ _; rw [List.length_map]; omega) (by show (Es.map Prod.fst).length ≤ _; rw [List.length_map]; omega) (by show Ps.length ≤ _; omega) (by show Os.length ≤ _; omega)
      rw [hgg, HFF.out] at r
      rw [← hgg] at r
      simp only [List.length_map] at r
      exact r
    have BV2 := hiddenG bv
    clear bv hgg LU1
    generalize w2.alloc (.cells #[.string (str nm), .slice x1 As.length d1, .slice x2 Es.length d2, .slice x3 Ps.length d3, .slice x4 Os.length d4] 31) = V2 at *
    go_upto_region 6 with (first
      | (refine wpList_storeW _ rfl 52 (.tmp 6) (.tmp 23) rfl rfl w3.heap.size 52 _ _ rfl rfl (blkA_new 52 w3 #[.int .i64 0, .int .u8 0, .int .i64 0, .int .u8 0]) sizF rfl rfl ?_; intro w4 hN hU; have N4 := hiddenG hN; have U4 := hiddenG hU; clear hN hU)
      | (go_at_call 16; (with_reducible refine FF.out.mono ?_); rintro e w3 ⟨rfl, b3⟩; have B3 := hiddenG b3; clear b3 z0 z1 z2 z3 z4))
    have B34 : Hid (Below V2.heap.size V2 w4) := by
      have q := B3.out.alloc B3.out.size (.cells #[.int .i64 0, .int .u8 0, .int .i64 0, .int .u8 0] 52)
      exact q.trans (U4.out.below B3.out.size q.size)
    have B6 := hiddenG (BXV.out.below B34.out)
    have G6 := hiddenG (G5.out.below B34.out)
    have F6 := N4
    obtain ⟨b6, hb6⟩ : ∃ q, w3.heap.size = q := ⟨_, rfl⟩
    have N61 : Hid (b6 ≠ w.heap.size + 1) := by
      have h1 := BXV.out.g.lt
      have h2 := B3.out.size
      show _ ≠ _
      omega
    have N62 : Hid (b6 ≠ w.heap.size + 2) := by
      have h1 := BXV.out.f.lt
      have h2 := B3.out.size
      show _ ≠ _
      omega
    rw [hb6] at F6
    have f0 : w4.cell? ⟨b6, 0, none⟩ = some (.int .i64 fc) := F6.out.cell rfl
    clear FF B3 U4 N4
    by_cases hfc : fc = 0
    · subst hfc
      have hBS : buildS nm (L.map Prod.fst) = (lookS nm (L.map Prod.fst), 0, 0) := by rw [HBS.out, if_neg (by decide)]
      have hso := head_ok ((sound_iff (lookS nm (L.map Prod.fst))).1 (by rw [HFF.out])).head
      rw [← HGG.out] at hso
      have ha32 : As.length ≤ 32 := by have q : (As.map Prod.fst).length ≤ 32 := hso.2.2.1; rw [List.length_map] at q; exact q
      have he96 : Es.length ≤ 96 := by have q : (Es.map Prod.fst).length ≤ 96 := hso.2.2.2.1; rw [List.length_map] at q; exact q
      have B14 : Hid (Below w1.heap.size w1 w4) := by
        have q1 := B2.out
        have q2 : Below w2.heap.size w2 V2 := BV2.out
        exact (q1.trans (q2.mono q1.size)).trans (B34.out.mono (Nat.le_trans q1.size q2.size))
      have OW : Hid (Calls Try.prog 18 #[.agg #[.string (str nm), .slice x1 As.length d1, .slice x2 Es.length d2, .slice x3 Ps.length d3, .slice x4 Os.length d4]] w4 (OwnE w1 nm (.slice x1 As.length d1) (.slice x2 Es.length d2) (.slice x3 Ps.length d3) (.slice x4 Os.length d4) As Es Ps Os)) :=
        ownLists_any nm _ _ _ _ As Es Ps Os w1 w4 B14.out (HGR.out.keep fun k _ hk => (B34.out.block k (Nat.lt_of_lt_of_le hk BV2.out.size)).trans (BV2.out.block k hk)) HLL.out.pa HLL.out.pe (by omega) (by omega)
      have z0 : w4.cell? ⟨w2.heap.size, 0, none⟩ = some (.string (str nm)) := G6.out.cell rfl
      have z1 : w4.cell? ⟨w2.heap.size, 1, none⟩ = some (.slice x1 As.length d1) := G6.out.cell rfl
      have z2 : w4.cell? ⟨w2.heap.size, 2, none⟩ = some (.slice x2 Es.length d2) := G6.out.cell rfl
      have z3 : w4.cell? ⟨w2.heap.size, 3, none⟩ = some (.slice x3 Ps.length d3) := G6.out.cell rfl
      have z4 : w4.cell? ⟨w2.heap.size, 4, none⟩ = some (.slice x4 Os.length d4) := G6.out.cell rfl
      rw [hb6]
      go_wp2_with (first
        | (refine wpList_storeW _ rfl 34 (.tmp 3) (.tmp 37) rfl rfl (w.heap.size + 2) 34 _ _ rfl rfl BY.out.f sizU rfl rfl ?_; intro w8 hN hU; have BZ := hiddenG (BY.out.setF hN hU); have U8 := hiddenG hU; clear hN hU)
        | (refine wpList_storeW _ rfl 31 (.tmp 2) (.tmp 36) rfl rfl (w.heap.size + 1) 31 _ _ rfl rfl B7.out.g sizG rfl rfl ?_; intro w6 hN hU; have BY := hiddenG (B7.out.setG hN hU); have U6 := hiddenG hU; clear hN hU)
        | (go_at_call 18; (with_reducible refine OW.out.mono ?_); rintro e w5 ⟨As', Es', rfl, hW, hfa, hfe, b5⟩; have HW := hiddenG hW; have HFA := hiddenG hfa; have HFE := hiddenG hfe; have B5 := hiddenG b5; have B7 := hiddenG (Bx.moved B1.out b5); clear hW hfa hfe b5 z0 z1 z2 z3 z4))
      have r0 : w8.cell? ⟨w.heap.size + 1, 0, none⟩ = some (.string (str nm)) := BZ.out.g.cell rfl
      have r1 : w8.cell? ⟨w.heap.size + 1, 1, none⟩ = some (.slice x1 As.length d1) := BZ.out.g.cell rfl
      have r2 : w8.cell? ⟨w.heap.size + 1, 2, none⟩ = some (.slice x2 Es.length d2) := BZ.out.g.cell rfl
      have r3 : w8.cell? ⟨w.heap.size + 1, 3, none⟩ = some (.slice x3 Ps.length d3) := BZ.out.g.cell rfl
      have r4 : w8.cell? ⟨w.heap.size + 1, 4, none⟩ = some (.slice x4 Os.length d4) := BZ.out.g.cell rfl
      have u0 : w8.cell? ⟨w.heap.size + 2, 0, none⟩ = some (.int .i64 0) := BZ.out.f.cell rfl
      have u1 : w8.cell? ⟨w.heap.size + 2, 1, none⟩ = some (.int .i64 0) := BZ.out.f.cell rfl
      refine bodyPost_ret (v := .tuple #[.agg #[.string (str nm), .slice x1 As.length d1, .slice x2 Es.length d2, .slice x3 Ps.length d3, .slice x4 Os.length d4], .agg #[.int .i64 0, .int .i64 0]]) (by simp [results, Try.results6, go_sem, r0, r1, r2, r3, r4, u0, u1]) rfl ?_
      unfold BuildE
      rw [hBS, if_pos rfl, ← HGG.out]
      have hw1 : w.heap.size + 2 < w1.heap.size := B1.out.f.lt
      have hnums := lul_nums HLL.out
      refine ⟨_, _, _, _, As', Es', rfl, ?_, HFA.out, HFE.out, fun p hp => ?_, fun p hp => ?_, BZ.out.bel⟩
      · exact (HW.out.keep fun k h1 h2 => ((U8.out.block k (Nat.lt_of_lt_of_le h2 U6.out.size) (Nat.ne_of_gt (Nat.lt_of_lt_of_le hw1 h1))).trans (U6.out.block k h2 (Nat.ne_of_gt (Nat.lt_of_lt_of_le (Nat.lt_trans (Nat.lt_succ_self _) hw1) h1))))).mono B1.out.bel.size
      · exact hnums.1 p.1 (by rw [← HFA.out]; exact List.mem_map_of_mem hp)
      · exact hnums.2 p.1 (by rw [← HFE.out]; exact List.mem_map_of_mem hp)
    · have hfb : (fc != 0) = true := by simpa using hfc
      have hBS : buildS nm (L.map Prod.fst) = (gg0, fc, placeG (L.map Prod.fst) 0 ⟨fc, fk, fnr, fs⟩) := by rw [HBS.out, if_pos hfc]
      have HB9 := hiddenG hBS
      clear hBS HGR HLL HGG HBS
      generalize placeG (L.map Prod.fst) 0 ⟨fc, fk, fnr, fs⟩ = at9 at *
      rw [hb6]
      clear hb6
      go_upto_region 7 with fail
      refine wp_region_gen [8, 9] (fun d i u z => match i with
          | 0 => z = .agg #[.string ⟨#[]⟩, .slice none 0 0, .slice none 0 0, .slice none 0 0, .slice none 0 0]
          | 1 => z = .pointer (some ⟨b6, 0, none⟩)
          | 2 => z = .int .i64 fc
          | 3 => z = .agg #[.int .i64 fc, .int .u8 (fk : Int), .int .i64 (fnr : Int), .int .u8 (fs : Int)]
          | 4 => z = .pointer (some ⟨w.heap.size, 1, none⟩)
          | 5 => z = .slice a n c
          | 6 => z = .int .i64 at9
          | 7 => z = .agg #[.int .i64 fc, .int .i64 at9]
          | 8 => True
          | 9 => True
          | _ => True) (fun d u => (d 9 = true → Bx w #[.string (str nm), .slice a n c] #[.string ⟨#[]⟩, .slice none 0 0, .slice none 0 0, .slice none 0 0, .slice none 0 0] #[.int .i64 fc, .int .i64 at9] u) ∧ (d 9 = false → Bx w #[.string (str nm), .slice a n c] #[.string ⟨#[]⟩, .slice none 0 0, .slice none 0 0, .slice none 0 0, .slice none 0 0] #[.int .i64 0, .int .i64 0] u) ∧ BlkA 52 b6 u #[.int .i64 fc, .int .u8 (fk : Int), .int .i64 (fnr : Int), .int .u8 (fs : Int)]) (by kernel_rfl) (by kernel_rfl) (by kernel_rfl) ?_ ?_ ?_ ?_ ?_ ?_ (by kernel_rfl)
      · intro d i w v w' h hb
        match i, h with
        | 0, h => exact h
        | 1, h => exact h
        | 2, h => exact h
        | 3, h => exact h
        | 4, h => exact h
        | 5, h => exact h
        | 6, h => exact h
        | 7, h => exact h
        | 8, h => exact h
        | 9, h => exact h
        | _ + 10, _ => trivial
      · intro d u u' h hb
        exact ⟨fun e => (h.1 e).below hb, fun e => (h.2.1 e).below hb, h.2.2.below hb⟩
      · exact ⟨fun e => absurd e (by decide), fun _ => B6.out, F6.out⟩
      · intro d i o ρ w' hm ho hf hg hC hcs hfs hfr hdep
        match i, hm, ho, hf, hg, hfr, hdep with
        | 0, _, ho, hf, hg, hfr, hdep =>
          simp only [gTA, gCZ, gSI] at ho
          subst ho
          refine ⟨fun _ => ?_, fun hw => absurd (show true = false from hw) (by decide)⟩
          simp [go_sem]
          exact ⟨Below.refl _ _, rfl⟩
        | 1, _, ho, hf, hg, hfr, hdep =>
          simp only [gTA, gCZ, gCS, gSI] at ho
          subst ho
          refine ⟨fun _ => ?_, fun hw => absurd (show true = false from hw) (by decide)⟩
          have ts : ρ (.tmp 6) = .pointer (some ⟨b6, 0, none⟩) := hfr 6 (by kernel_rfl)
          simp [go_sem, ts]
          exact ⟨Below.refl _ _, rfl⟩
        | 2, _, ho, hf, hg, hfr, hdep =>
          simp only [gTA, gCZ, gCS, gSI] at ho
          subst ho
          refine ⟨fun _ => ?_, fun hw => absurd (show true = false from hw) (by decide)⟩
          have cc : w'.cell? ⟨b6, 0, none⟩ = some (.int .i64 fc) := hC.2.2.cell rfl
          have d0 : ρ (.tmp 28) = .pointer (some ⟨b6, 0, none⟩) := hdep 1 28 (by kernel_rfl) (by kernel_rfl)
          simp [go_sem, d0, cc]
          exact ⟨Below.refl _ _, rfl⟩
        | 3, _, ho, hf, hg, hfr, hdep =>
          simp only [gTA, gCZ, gCS, gSI] at ho
          subst ho
          refine ⟨fun _ => ?_, fun hw => absurd (show true = false from hw) (by decide)⟩
          have ts : ρ (.tmp 6) = .pointer (some ⟨b6, 0, none⟩) := hfr 6 (by kernel_rfl)
          have cc0 : w'.cell? ⟨b6, 0, none⟩ = some (.int .i64 fc) := hC.2.2.cell rfl
          have cc1 : w'.cell? ⟨b6, 1, none⟩ = some (.int .u8 (fk : Int)) := hC.2.2.cell rfl
          have cc2 : w'.cell? ⟨b6, 2, none⟩ = some (.int .i64 (fnr : Int)) := hC.2.2.cell rfl
          have cc3 : w'.cell? ⟨b6, 3, none⟩ = some (.int .u8 (fs : Int)) := hC.2.2.cell rfl
          simp [go_sem, ts, cc0, cc1, cc2, cc3]
          exact ⟨Below.refl _ _, rfl⟩
        | 4, _, ho, hf, hg, hfr, hdep =>
          simp only [gTA, gCZ, gCS, gSI] at ho
          subst ho
          refine ⟨fun _ => ?_, fun hw => absurd (show true = false from hw) (by decide)⟩
          have ts : ρ (.tmp 1) = .pointer (some ⟨w.heap.size, 0, none⟩) := hfr 1 (by kernel_rfl)
          simp [go_sem, ts]
          exact ⟨Below.refl _ _, rfl⟩
        | 5, _, ho, hf, hg, hfr, hdep =>
          simp only [gTA, gCZ, gCS, gSI] at ho
          subst ho
          refine ⟨fun _ => ?_, fun hw => absurd (show true = false from hw) (by decide)⟩
          have bx : Bx w #[.string (str nm), .slice a n c] #[.string ⟨#[]⟩, .slice none 0 0, .slice none 0 0, .slice none 0 0, .slice none 0 0] #[.int .i64 0, .int .i64 0] w' := hC.2.1 (hf 9 (by decide) (by kernel_rfl))
          have cc : w'.cell? ⟨w.heap.size, 1, none⟩ = some (.slice a n c) := bx.s.cell rfl
          have d0 : ρ (.tmp 31) = .pointer (some ⟨w.heap.size, 1, none⟩) := hdep 4 31 (by kernel_rfl) (by kernel_rfl)
          simp [go_sem, d0, cc]
          exact ⟨Below.refl _ _, rfl⟩
        | 6, _, ho, hf, hg, hfr, hdep =>
          simp only [gTA, gCZ, gCS, gSI] at ho
          subst ho
          refine ⟨fun _ => ?_, fun hw => absurd (show true = false from hw) (by decide)⟩
          have bx : Bx w #[.string (str nm), .slice a n c] #[.string ⟨#[]⟩, .slice none 0 0, .slice none 0 0, .slice none 0 0, .slice none 0 0] #[.int .i64 0, .int .i64 0] w' := hC.2.1 (hf 9 (by decide) (by kernel_rfl))
          have t0 : ρ (.tmp 30) = .agg #[.int .i64 fc, .int .u8 (fk : Int), .int .i64 (fnr : Int), .int .u8 (fs : Int)] := hdep 3 30 (by kernel_rfl) (by kernel_rfl)
          have t1 : ρ (.tmp 32) = .slice a n c := hdep 5 32 (by kernel_rfl) (by kernel_rfl)
          simp [go_sem, t0, t1, hfs]
          exact ⟨rfl, (PL.out w' bx.bel).mono fun e w'' hh => ⟨_, hh.1, hh.2, rfl⟩⟩
        | 7, _, ho, hf, hg, hfr, hdep =>
          simp only [gTA, gCZ, gCS, gSI] at ho
          subst ho
          refine ⟨fun _ => ?_, fun hw => absurd (show true = false from hw) (by decide)⟩
          have d0 : ρ (.tmp 29) = .int .i64 fc := hdep 2 29 (by kernel_rfl) (by kernel_rfl)
          have d1 : ρ (.tmp 33) = .int .i64 at9 := hdep 6 33 (by kernel_rfl) (by kernel_rfl)
          simp [go_sem, d0, d1]
          exact ⟨Below.refl _ _, rfl⟩
        | 8, hm, _, _, _, _, _ => exact absurd hm (by decide)
        | 9, hm, _, _, _, _, _ => exact absurd hm (by decide)
        | n + 10, _, ho, _, _, _, _ => simp at ho
      · intro d i o ρ w' hm ho h0 hf hg hC hcs hfs hfr hdep
        match i, hm, ho, h0, hf, hg, hfr, hdep with
        | 0, hm, _, _, _, _, _, _ => exact absurd hm (by decide)
        | 1, hm, _, _, _, _, _, _ => exact absurd hm (by decide)
        | 2, hm, _, _, _, _, _, _ => exact absurd hm (by decide)
        | 3, hm, _, _, _, _, _, _ => exact absurd hm (by decide)
        | 4, hm, _, _, _, _, _, _ => exact absurd hm (by decide)
        | 5, hm, _, _, _, _, _, _ => exact absurd hm (by decide)
        | 6, hm, _, _, _, _, _, _ => exact absurd hm (by decide)
        | 7, hm, _, _, _, _, _, _ => exact absurd hm (by decide)
        | 8, _, ho, h0, hf, hg, hfr, hdep =>
          simp only [gTA, gCZ, gCS, gSI] at ho
          subst ho
          refine ⟨rfl, ?_⟩
          have t0 : ρ (.tmp 27) = .agg #[.string ⟨#[]⟩, .slice none 0 0, .slice none 0 0, .slice none 0 0, .slice none 0 0] := hdep 0 27 (by kernel_rfl) (by kernel_rfl)
          have tp : ρ (.tmp 2) = .pointer (some ⟨w.heap.size + 1, 0, none⟩) := hfr 2 (by kernel_rfl)
          refine mark_storeW 31 (.tmp 2) (.tmp 27) rfl (w.heap.size + 1) 31 _ _ tp t0 (hC.2.1 (hf 9 (by decide) (by kernel_rfl))).g sizG rfl rfl ?_
          intro w8 hB8 hU8
          refine ⟨⟨fun e => absurd ((hf 9 (by decide) (by kernel_rfl)).symm.trans (by simpa [doneAt] using e)) (by decide), fun _ => (hC.2.1 (hf 9 (by decide) (by kernel_rfl))).setG hB8 hU8, hC.2.2.keep (hU8.block _ hC.2.2.lt N61.out)⟩, fun h => absurd rfl h, ?_⟩
          intro j t _ hs
          match j, hs with
          | 0, hs => exact hs
          | 1, hs => exact hs
          | 2, hs => exact hs
          | 3, hs => exact hs
          | 4, hs => exact hs
          | 5, hs => exact hs
          | 6, hs => exact hs
          | 7, hs => exact hs
          | 8, hs => exact hs
          | 9, hs => exact hs
          | _ + 10, _ => trivial
        | 9, _, ho, h0, hf, hg, hfr, hdep =>
          simp only [gTA, gCZ, gCS, gSI] at ho
          subst ho
          refine ⟨rfl, ?_⟩
          have t0 : ρ (.tmp 34) = .agg #[.int .i64 fc, .int .i64 at9] := hdep 7 34 (by kernel_rfl) (by kernel_rfl)
          have tp : ρ (.tmp 3) = .pointer (some ⟨w.heap.size + 2, 0, none⟩) := hfr 3 (by kernel_rfl)
          refine mark_storeW 34 (.tmp 3) (.tmp 34) rfl (w.heap.size + 2) 34 _ _ tp t0 (hC.2.1 h0).f sizU rfl rfl ?_
          intro w8 hB8 hU8
          refine ⟨⟨fun _ => (hC.2.1 h0).setF hB8 hU8, fun e => absurd e (by simp [doneAt]), hC.2.2.keep (hU8.block _ hC.2.2.lt N62.out)⟩, fun h => absurd rfl h, ?_⟩
          intro j t _ hs
          match j, hs with
          | 0, hs => exact hs
          | 1, hs => exact hs
          | 2, hs => exact hs
          | 3, hs => exact hs
          | 4, hs => exact hs
          | 5, hs => exact hs
          | 6, hs => exact hs
          | 7, hs => exact hs
          | 8, hs => exact hs
          | 9, hs => exact hs
          | _ + 10, _ => trivial
        | n + 10, _, ho, _, _, _, _, _ => simp at ho
      · intro V w9 hC9 hS
        simp only [puts, put_none]
        simp only [Act.put, List.setIfInBounds_toArray, List.set_cons_zero, List.set_cons_succ]
        clear hS 
        have BZ := hiddenG (hC9.1 rfl)
        clear hC9
        go_wp2
        have r0 : w9.cell? ⟨w.heap.size + 1, 0, none⟩ = some (.string ⟨#[]⟩) := BZ.out.g.cell rfl
        have r1 : w9.cell? ⟨w.heap.size + 1, 1, none⟩ = some (.slice none 0 0) := BZ.out.g.cell rfl
        have r2 : w9.cell? ⟨w.heap.size + 1, 2, none⟩ = some (.slice none 0 0) := BZ.out.g.cell rfl
        have r3 : w9.cell? ⟨w.heap.size + 1, 3, none⟩ = some (.slice none 0 0) := BZ.out.g.cell rfl
        have r4 : w9.cell? ⟨w.heap.size + 1, 4, none⟩ = some (.slice none 0 0) := BZ.out.g.cell rfl
        have u0 : w9.cell? ⟨w.heap.size + 2, 0, none⟩ = some (.int .i64 fc) := BZ.out.f.cell rfl
        have u1 : w9.cell? ⟨w.heap.size + 2, 1, none⟩ = some (.int .i64 at9) := BZ.out.f.cell rfl
        refine bodyPost_ret (v := .tuple #[.agg #[.string ⟨#[]⟩, .slice none 0 0, .slice none 0 0, .slice none 0 0, .slice none 0 0], .agg #[.int .i64 fc, .int .i64 at9]]) (by simp [results, Try.results6, go_sem, r0, r1, r2, r3, r4, u0, u1]) rfl ?_
        unfold BuildE
        rw [HB9.out, if_neg (by exact hfc)]
        exact ⟨rfl, BZ.out.bel⟩
  · obtain ⟨k, rfl⟩ : ∃ k : Nat, ix = (k : Int) := ⟨ix.toNat, by omega⟩
    have hk : k < n := by omega
    have hki : (k : Int) < (n : Int) := by omega
    have hk0 : (0 : Int) ≤ (k : Int) := by omega
    rcases HR.out.lie with e | ⟨gb, off, rfl, hc⟩
    · have := HL.out; rw [e] at this; simp at this; omega
    obtain ⟨pl, hpl⟩ : ∃ q, (nthI L k).1.place = q := ⟨_, rfl⟩
    have HPL := hiddenG (hc k (by have := HL.out; omega)).c10
    rw [hpl] at HPL
    have hBS : buildS nm (L.map Prod.fst) = (gg0, 1, pl) := by
      unfold buildS
      rw [HIX.out, if_pos hk0, Int.toNat_natCast, map_getD (by have := HL.out; omega), hpl]
    have HB9 := hiddenG hBS
    clear hBS hpl hc
    go_enter Try.func6, Try.ntmps6
    go_upto_region 1 with fail
    generalize ((w.alloc (.cells #[.string (str nm), .slice (some ⟨gb, off, none⟩) n c] 24)).alloc (.cells #[.string ⟨#[]⟩, .slice none 0 0, .slice none 0 0, .slice none 0 0, .slice none 0 0] 31)).alloc (.cells #[.int .i64 0, .int .i64 0] 34) = W0 at *
    go_upto_region 3 with (go_at_call 13; (with_reducible refine IX.out.mono ?_); rintro e w1 ⟨rfl, b1⟩; have B1 := hiddenG (B0.out.below b1); clear b1 y1)
    clear IX B0
    refine wp_region_gen [8, 9] (fun d i u z => match i with
        | 0 => z = .agg #[.string ⟨#[]⟩, .slice none 0 0, .slice none 0 0, .slice none 0 0, .slice none 0 0]
        | 1 => z = .pointer (some ⟨w.heap.size, 1, none⟩)
        | 2 => z = .slice (some ⟨gb, off, none⟩) n c
        | 3 => z = .int .i64 (k : Int)
        | 4 => z = .pointer (some ⟨gb, off + k * 11, none⟩)
        | 5 => z = .pointer (some ⟨gb, off + k * 11 + 10, none⟩)
        | 6 => z = .int .i64 pl
        | 7 => z = .agg #[.int .i64 1, .int .i64 pl]
        | 8 => True
        | 9 => True
        | _ => True) (fun d u => (d 9 = true → Bx w #[.string (str nm), .slice (some ⟨gb, off, none⟩) n c] #[.string ⟨#[]⟩, .slice none 0 0, .slice none 0 0, .slice none 0 0, .slice none 0 0] #[.int .i64 1, .int .i64 pl] u) ∧ (d 9 = false → Bx w #[.string (str nm), .slice (some ⟨gb, off, none⟩) n c] #[.string ⟨#[]⟩, .slice none 0 0, .slice none 0 0, .slice none 0 0, .slice none 0 0] #[.int .i64 0, .int .i64 0] u)) (by kernel_rfl) (by kernel_rfl) (by kernel_rfl) ?_ ?_ ?_ ?_ ?_ ?_ (by kernel_rfl)
    · intro d i w v w' h hb
      match i, h with
      | 0, h => exact h
      | 1, h => exact h
      | 2, h => exact h
      | 3, h => exact h
      | 4, h => exact h
      | 5, h => exact h
      | 6, h => exact h
      | 7, h => exact h
      | 8, h => exact h
      | 9, h => exact h
      | _ + 10, _ => trivial
    · intro d u u' h hb
      exact ⟨fun e => (h.1 e).below hb, fun e => (h.2 e).below hb⟩
    · exact ⟨fun e => absurd e (by decide), fun _ => B1.out⟩
    · intro d i o ρ w' hm ho hf hg hC hcs hfs hfr hdep
      match i, hm, ho, hf, hg, hfr, hdep with
      | 0, _, ho, hf, hg, hfr, hdep =>
        simp only [gTA, gCZ, gSI] at ho
        subst ho
        refine ⟨fun _ => ?_, fun hw => absurd (show true = false from hw) (by decide)⟩
        simp [go_sem]
        exact ⟨Below.refl _ _, rfl⟩
      | 1, _, ho, hf, hg, hfr, hdep =>
        simp only [gTA, gCZ, gCS, gSI] at ho
        subst ho
        refine ⟨fun _ => ?_, fun hw => absurd (show true = false from hw) (by decide)⟩
        have ts : ρ (.tmp 1) = .pointer (some ⟨w.heap.size, 0, none⟩) := hfr 1 (by kernel_rfl)
        simp [go_sem, ts]
        exact ⟨Below.refl _ _, rfl⟩
      | 2, _, ho, hf, hg, hfr, hdep =>
        simp only [gTA, gCZ, gCS, gSI] at ho
        subst ho
        refine ⟨fun _ => ?_, fun hw => absurd (show true = false from hw) (by decide)⟩
        have bx : Bx w #[.string (str nm), .slice (some ⟨gb, off, none⟩) n c] #[.string ⟨#[]⟩, .slice none 0 0, .slice none 0 0, .slice none 0 0, .slice none 0 0] #[.int .i64 0, .int .i64 0] w' := hC.2 (hf 9 (by decide) (by kernel_rfl))
        have cc : w'.cell? ⟨w.heap.size, 1, none⟩ = some (.slice (some ⟨gb, off, none⟩) n c) := bx.s.cell rfl
        have d0 : ρ (.tmp 13) = .pointer (some ⟨w.heap.size, 1, none⟩) := hdep 1 13 (by kernel_rfl) (by kernel_rfl)
        simp [go_sem, d0, cc]
        exact ⟨Below.refl _ _, rfl⟩
      | 3, _, ho, hf, hg, hfr, hdep =>
        simp only [gTA, gCZ, gCS, gSI] at ho
        subst ho
        refine ⟨fun _ => ?_, fun hw => absurd (show true = false from hw) (by decide)⟩
        have ts : ρ (.tmp 4) = .int .i64 (k : Int) := hfr 4 (by kernel_rfl)
        simp [go_sem, ts]
        exact ⟨Below.refl _ _, rfl⟩
      | 4, _, ho, hf, hg, hfr, hdep =>
        simp only [gTA, gCZ, gCS, gSI] at ho
        subst ho
        refine ⟨fun _ => ?_, fun hw => absurd (show true = false from hw) (by decide)⟩
        have d0 : ρ (.tmp 14) = .slice (some ⟨gb, off, none⟩) n c := hdep 2 14 (by kernel_rfl) (by kernel_rfl)
        have d1 : ρ (.tmp 15) = .int .i64 (k : Int) := hdep 3 15 (by kernel_rfl) (by kernel_rfl)
        simp [go_sem, d0, d1, hki]
        exact ⟨Below.refl _ _, rfl⟩
      | 5, _, ho, hf, hg, hfr, hdep =>
        simp only [gTA, gCZ, gCS, gSI] at ho
        subst ho
        refine ⟨fun _ => ?_, fun hw => absurd (show true = false from hw) (by decide)⟩
        have d0 : ρ (.tmp 16) = .pointer (some ⟨gb, off + k * 11, none⟩) := hdep 4 16 (by kernel_rfl) (by kernel_rfl)
        simp [go_sem, d0]
        exact ⟨Below.refl _ _, rfl⟩
      | 6, _, ho, hf, hg, hfr, hdep =>
        simp only [gTA, gCZ, gCS, gSI] at ho
        subst ho
        refine ⟨fun _ => ?_, fun hw => absurd (show true = false from hw) (by decide)⟩
        have bx : Bx w #[.string (str nm), .slice (some ⟨gb, off, none⟩) n c] #[.string ⟨#[]⟩, .slice none 0 0, .slice none 0 0, .slice none 0 0, .slice none 0 0] #[.int .i64 0, .int .i64 0] w' := hC.2 (hf 9 (by decide) (by kernel_rfl))
        have cc : w'.cell? ⟨gb, off + k * 11 + 10, none⟩ = some (.int .i64 pl) := cell_keep bx.bel HPL.out
        have d0 : ρ (.tmp 17) = .pointer (some ⟨gb, off + k * 11 + 10, none⟩) := hdep 5 17 (by kernel_rfl) (by kernel_rfl)
        simp [go_sem, d0, cc]
        exact ⟨Below.refl _ _, rfl⟩
      | 7, _, ho, hf, hg, hfr, hdep =>
        simp only [gTA, gCZ, gCS, gSI] at ho
        subst ho
        refine ⟨fun _ => ?_, fun hw => absurd (show true = false from hw) (by decide)⟩
        have d0 : ρ (.tmp 18) = .int .i64 pl := hdep 6 18 (by kernel_rfl) (by kernel_rfl)
        simp [go_sem, d0, hcs]
        exact ⟨Below.refl _ _, rfl⟩
      | 8, hm, _, _, _, _, _ => exact absurd hm (by decide)
      | 9, hm, _, _, _, _, _ => exact absurd hm (by decide)
      | n + 10, _, ho, _, _, _, _ => simp at ho
    · intro d i o ρ w' hm ho h0 hf hg hC hcs hfs hfr hdep
      match i, hm, ho, h0, hf, hg, hfr, hdep with
      | 0, hm, _, _, _, _, _, _ => exact absurd hm (by decide)
      | 1, hm, _, _, _, _, _, _ => exact absurd hm (by decide)
      | 2, hm, _, _, _, _, _, _ => exact absurd hm (by decide)
      | 3, hm, _, _, _, _, _, _ => exact absurd hm (by decide)
      | 4, hm, _, _, _, _, _, _ => exact absurd hm (by decide)
      | 5, hm, _, _, _, _, _, _ => exact absurd hm (by decide)
      | 6, hm, _, _, _, _, _, _ => exact absurd hm (by decide)
      | 7, hm, _, _, _, _, _, _ => exact absurd hm (by decide)
      | 8, _, ho, h0, hf, hg, hfr, hdep =>
        simp only [gTA, gCZ, gCS, gSI] at ho
        subst ho
        refine ⟨rfl, ?_⟩
        have t0 : ρ (.tmp 12) = .agg #[.string ⟨#[]⟩, .slice none 0 0, .slice none 0 0, .slice none 0 0, .slice none 0 0] := hdep 0 12 (by kernel_rfl) (by kernel_rfl)
        have tp : ρ (.tmp 2) = .pointer (some ⟨w.heap.size + 1, 0, none⟩) := hfr 2 (by kernel_rfl)
        refine mark_storeW 31 (.tmp 2) (.tmp 12) rfl (w.heap.size + 1) 31 _ _ tp t0 (hC.2 (hf 9 (by decide) (by kernel_rfl))).g sizG rfl rfl ?_
        intro w8 hB8 hU8
        refine ⟨⟨fun e => absurd ((hf 9 (by decide) (by kernel_rfl)).symm.trans (by simpa [doneAt] using e)) (by decide), fun _ => (hC.2 (hf 9 (by decide) (by kernel_rfl))).setG hB8 hU8⟩, fun h => absurd rfl h, ?_⟩
        intro j t _ hs
        match j, hs with
        | 0, hs => exact hs
        | 1, hs => exact hs
        | 2, hs => exact hs
        | 3, hs => exact hs
        | 4, hs => exact hs
        | 5, hs => exact hs
        | 6, hs => exact hs
        | 7, hs => exact hs
        | 8, hs => exact hs
        | 9, hs => exact hs
        | _ + 10, _ => trivial
      | 9, _, ho, h0, hf, hg, hfr, hdep =>
        simp only [gTA, gCZ, gCS, gSI] at ho
        subst ho
        refine ⟨rfl, ?_⟩
        have t0 : ρ (.tmp 19) = .agg #[.int .i64 1, .int .i64 pl] := hdep 7 19 (by kernel_rfl) (by kernel_rfl)
        have tp : ρ (.tmp 3) = .pointer (some ⟨w.heap.size + 2, 0, none⟩) := hfr 3 (by kernel_rfl)
        refine mark_storeW 34 (.tmp 3) (.tmp 19) rfl (w.heap.size + 2) 34 _ _ tp t0 (hC.2 h0).f sizU rfl rfl ?_
        intro w8 hB8 hU8
        refine ⟨⟨fun _ => (hC.2 h0).setF hB8 hU8, fun e => absurd e (by simp [doneAt])⟩, fun h => absurd rfl h, ?_⟩
        intro j t _ hs
        match j, hs with
        | 0, hs => exact hs
        | 1, hs => exact hs
        | 2, hs => exact hs
        | 3, hs => exact hs
        | 4, hs => exact hs
        | 5, hs => exact hs
        | 6, hs => exact hs
        | 7, hs => exact hs
        | 8, hs => exact hs
        | 9, hs => exact hs
        | _ + 10, _ => trivial
      | n + 10, _, ho, _, _, _, _, _ => simp at ho
    · intro V w9 hC9 hS
      simp only [puts, put_none]
      simp only [Act.put, List.setIfInBounds_toArray, List.set_cons_zero, List.set_cons_succ]
      clear hS 
      have BZ := hiddenG (hC9.1 rfl)
      clear hC9
      go_wp2
      have r0 : w9.cell? ⟨w.heap.size + 1, 0, none⟩ = some (.string ⟨#[]⟩) := BZ.out.g.cell rfl
      have r1 : w9.cell? ⟨w.heap.size + 1, 1, none⟩ = some (.slice none 0 0) := BZ.out.g.cell rfl
      have r2 : w9.cell? ⟨w.heap.size + 1, 2, none⟩ = some (.slice none 0 0) := BZ.out.g.cell rfl
      have r3 : w9.cell? ⟨w.heap.size + 1, 3, none⟩ = some (.slice none 0 0) := BZ.out.g.cell rfl
      have r4 : w9.cell? ⟨w.heap.size + 1, 4, none⟩ = some (.slice none 0 0) := BZ.out.g.cell rfl
      have u0 : w9.cell? ⟨w.heap.size + 2, 0, none⟩ = some (.int .i64 1) := BZ.out.f.cell rfl
      have u1 : w9.cell? ⟨w.heap.size + 2, 1, none⟩ = some (.int .i64 pl) := BZ.out.f.cell rfl
      refine bodyPost_ret (v := .tuple #[.agg #[.string ⟨#[]⟩, .slice none 0 0, .slice none 0 0, .slice none 0 0, .slice none 0 0], .agg #[.int .i64 1, .int .i64 pl]]) (by simp [results, Try.results6, go_sem, r0, r1, r2, r3, r4, u0, u1]) rfl ?_
      unfold BuildE
      rw [HB9.out, if_neg (by show ¬ (1 : Int) = 0; decide)]
      exact ⟨rfl, BZ.out.bel⟩
theorem drew_belowG {B : Nat} {a w : World} (h : Below B a w) (n : Nat) : Below B a (w.drewN n) := h.trans ⟨rfl, rfl, rfl, Nat.le_refl _, fun _ _ => rfl⟩
set_option maxRecDepth 100000 in
set_option maxHeartbeats 2000000 in
theorem samePorts_any (Ps : List GP) (a b : Option Addr) (n c d : Nat) (w : World) (hn : Ps.length = n) (h1 : AtPt w a Ps) (h2 : AtPt w b Ps) (hl : n ≤ 1000000000000000) :
    Calls Try.prog 22 #[.slice a n c, .slice b n d] w fun e w' => e = .returned (.bool true) ∧ Below w.heap.size w w' := by
  have H1 := hiddenG h1
  have H2 := hiddenG h2
  have HL := hiddenG hn
  have hee : ((n : Int) != (n : Int)) = false := by simp
  have hnI : (n : Int) ≤ 1000000000000000 := by omega
  clear h1 h2 hn
  go_enter Try.func22, Try.ntmps22
  go_wp2
  go_loopg [5] n (fun gk v wr => ∃ k : Nat, k ≤ n ∧ gk = n - k ∧ v = .int .i64 (k : Int) ∧ Below w.heap.size w wr)
  case atStart => exact ⟨0, Nat.zero_le _, rfl, rfl, Below.refl _ _⟩
  case round =>
    obtain ⟨k, hk, rfl, rfl, hB⟩ := hrel
    have HB := hiddenG hB
    clear hB
    by_cases hlt : k < n
    · have hki : (k : Int) < (n : Int) := by omega
      have hkl : k < Ps.length := by have := HL.out; omega
      rcases H1.out.below HB.out with e | ⟨g1, o1, rfl, hc1⟩
      · rw [e] at hkl; exact absurd hkl (Nat.not_lt_zero _)
      rcases H2.out.below HB.out with e | ⟨g2, o2, rfl, hc2⟩
      · rw [e] at hkl; exact absurd hkl (Nat.not_lt_zero _)
      obtain ⟨x0, x1, x2⟩ := hc1 k hkl
      obtain ⟨y0, y1, y2⟩ := hc2 k hkl
      generalize nthP Ps k = E at *
      obtain ⟨nm, ac, po⟩ := E
      simp only at x0 x1 x2 y0 y1 y2
      clear hc1 hc2
      go_wp2
      go_quiet (fail)
      go_wp2
      go_roundg (n - (k + 1))
      case measure => omega
      case rel => exact ⟨k + 1, by omega, rfl, by go_num, drew_belowG HB.out _⟩
    · have hki : ¬ (k : Int) < (n : Int) := by omega
      go_wp2
      go_ret
      exact ⟨rfl, HB.out⟩
set_option maxRecDepth 100000 in
set_option maxHeartbeats 8000000 in
theorem sameGraph_any (g : GG) (a1 a2 a3 a4 b1 b2 b3 b4 : Option Addr) (c1 c2 c3 c4 d1 d2 d3 d4 : Nat) (w : World) (hA1 : AtA w a1 g.actors) (hE1 : AtE w a2 g.edges) (hI1 : AtPt w a3 g.ins) (hO1 : AtPt w a4 g.outs) (hA2 : AtA w b1 g.actors) (hE2 : AtE w b2 g.edges) (hI2 : AtPt w b3 g.ins) (hO2 : AtPt w b4 g.outs)
    (l1 : g.actors.length ≤ 1000000000000000) (l2 : g.edges.length ≤ 1000000000000000) (l3 : g.ins.length ≤ 1000000000000000) (l4 : g.outs.length ≤ 1000000000000000) (m1 : ∀ x ∈ g.actors, x.params.length ≤ 4611686018427387904) (m2 : ∀ x ∈ g.edges, x.start.length ≤ 4611686018427387904) :
    Calls Try.prog 8 #[.agg #[.string (str g.name), .slice a1 g.actors.length c1, .slice a2 g.edges.length c2, .slice a3 g.ins.length c3, .slice a4 g.outs.length c4], .agg #[.string (str g.name), .slice b1 g.actors.length d1, .slice b2 g.edges.length d2, .slice b3 g.ins.length d3, .slice b4 g.outs.length d4]] w fun e w' => e = .returned (.bool true) ∧ Below w.heap.size w w' := by
  have ba := ((Below.refl w.heap.size w).alloc (Nat.le_refl _) (.cells #[.string (str g.name), .slice a1 g.actors.length c1, .slice a2 g.edges.length c2, .slice a3 g.ins.length c3, .slice a4 g.outs.length c4] 31)).alloc (by simp) (.cells #[.string (str g.name), .slice b1 g.actors.length d1, .slice b2 g.edges.length d2, .slice b3 g.ins.length d3, .slice b4 g.outs.length d4] 31)
  have BX0 : Hid (BlkA 31 w.heap.size ((w.alloc (.cells #[.string (str g.name), .slice a1 g.actors.length c1, .slice a2 g.edges.length c2, .slice a3 g.ins.length c3, .slice a4 g.outs.length c4] 31)).alloc (.cells #[.string (str g.name), .slice b1 g.actors.length d1, .slice b2 g.edges.length d2, .slice b3 g.ins.length d3, .slice b4 g.outs.length d4] 31)) #[.string (str g.name), .slice a1 g.actors.length c1, .slice a2 g.edges.length c2, .slice a3 g.ins.length c3, .slice a4 g.outs.length c4] ∧ BlkA 31 (w.heap.size + 1) ((w.alloc (.cells #[.string (str g.name), .slice a1 g.actors.length c1, .slice a2 g.edges.length c2, .slice a3 g.ins.length c3, .slice a4 g.outs.length c4] 31)).alloc (.cells #[.string (str g.name), .slice b1 g.actors.length d1, .slice b2 g.edges.length d2, .slice b3 g.ins.length d3, .slice b4 g.outs.length d4] 31)) #[.string (str g.name), .slice b1 g.actors.length d1, .slice b2 g.edges.length d2, .slice b3 g.ins.length d3, .slice b4 g.outs.length d4] ∧ Below w.heap.size w ((w.alloc (.cells #[.string (str g.name), .slice a1 g.actors.length c1, .slice a2 g.edges.length c2, .slice a3 g.ins.length c3, .slice a4 g.outs.length c4] 31)).alloc (.cells #[.string (str g.name), .slice b1 g.actors.length d1, .slice b2 g.edges.length d2, .slice b3 g.ins.length d3, .slice b4 g.outs.length d4] 31))) := by
    refine ⟨(blkA_new 31 w #[.string (str g.name), .slice a1 g.actors.length c1, .slice a2 g.edges.length c2, .slice a3 g.ins.length c3, .slice a4 g.outs.length c4]).below ((Below.refl _ _).alloc (Nat.le_refl _) (.cells #[.string (str g.name), .slice b1 g.actors.length d1, .slice b2 g.edges.length d2, .slice b3 g.ins.length d3, .slice b4 g.outs.length d4] 31)), ?_, ba⟩
    have h3 := blkA_new 31 (w.alloc (.cells #[.string (str g.name), .slice a1 g.actors.length c1, .slice a2 g.edges.length c2, .slice a3 g.ins.length c3, .slice a4 g.outs.length c4] 31)) #[.string (str g.name), .slice b1 g.actors.length d1, .slice b2 g.edges.length d2, .slice b3 g.ins.length d3, .slice b4 g.outs.length d4]
    rw [World.size_alloc] at h3
    exact h3
  have A1 := hiddenG hA1
  have E1 := hiddenG hE1
  have A2 := hiddenG hA2
  have E2 := hiddenG hE2
  have M1 := hiddenG m1
  have M2 := hiddenG m2
  have PI : Hid (∀ U, Below w.heap.size w U → Calls Try.prog 22 #[.slice a3 g.ins.length c3, .slice b3 g.ins.length d3] U fun e w' => e = .returned (.bool true) ∧ Below U.heap.size U w') := fun U hb => samePorts_any g.ins a3 b3 _ c3 d3 U rfl (hI1.below hb) (hI2.below hb) l3
  have PO : Hid (∀ U, Below w.heap.size w U → Calls Try.prog 22 #[.slice a4 g.outs.length c4, .slice b4 g.outs.length d4] U fun e w' => e = .returned (.bool true) ∧ Below U.heap.size U w') := fun U hb => samePorts_any g.outs a4 b4 _ c4 d4 U rfl (hO1.below hb) (hO2.below hb) l4
  have hstr : ((str g.name).toList == (str g.name).toList) = true := by simp
  have hstr2 : ((str g.name).toList != (str g.name).toList) = false := by simp
  clear ba hA1 hE1 hI1 hO1 hA2 hE2 hI2 hO2 m1 m2
  have n1 : (g.actors.length : Int) ≤ 1000000000000000 := by omega
  have n2 : (g.edges.length : Int) ≤ 1000000000000000 := by omega
  have e1 : ((g.actors.length : Int) != (g.actors.length : Int)) = false := by simp
  have e2 : ((g.edges.length : Int) != (g.edges.length : Int)) = false := by simp
  have q0 := BX0.out.1.cell (k := 0) rfl
  have r0 := BX0.out.2.1.cell (k := 0) rfl
  have q1 := BX0.out.1.cell (k := 1) rfl
  have r1 := BX0.out.2.1.cell (k := 1) rfl
  have q2 := BX0.out.1.cell (k := 2) rfl
  have r2 := BX0.out.2.1.cell (k := 2) rfl
  go_enter Try.func8, Try.ntmps8
  go_upto_region 1 with fail
  generalize (w.alloc (.cells #[.string (str g.name), .slice a1 g.actors.length c1, .slice a2 g.edges.length c2, .slice a3 g.ins.length c3, .slice a4 g.outs.length c4] 31)).alloc (.cells #[.string (str g.name), .slice b1 g.actors.length d1, .slice b2 g.edges.length d2, .slice b3 g.ins.length d3, .slice b4 g.outs.length d4] 31) = W0 at *
  go_wp2
  go_loopg [5] g.actors.length (fun gk v wr => ∃ k : Nat, k ≤ g.actors.length ∧ gk = g.actors.length - k ∧ v = .int .i64 (k : Int) ∧ BlkA 31 w.heap.size wr #[.string (str g.name), .slice a1 g.actors.length c1, .slice a2 g.edges.length c2, .slice a3 g.ins.length c3, .slice a4 g.outs.length c4] ∧ BlkA 31 (w.heap.size + 1) wr #[.string (str g.name), .slice b1 g.actors.length d1, .slice b2 g.edges.length d2, .slice b3 g.ins.length d3, .slice b4 g.outs.length d4] ∧ Below w.heap.size w wr)
  case atStart => exact ⟨0, Nat.zero_le _, rfl, rfl, BX0.out⟩
  case round =>
    clear BX0 q0 q1 q2 r0 r1 r2
    obtain ⟨k, hk, rfl, rfl, hX⟩ := hrel
    have BX := hiddenG hX
    clear hX
    have p1 : wr.cell? ⟨w.heap.size, 1, none⟩ = some (.slice a1 g.actors.length c1) := BX.out.1.cell rfl
    have p2 : wr.cell? ⟨w.heap.size, 2, none⟩ = some (.slice a2 g.edges.length c2) := BX.out.1.cell rfl
    have p3 : wr.cell? ⟨w.heap.size, 3, none⟩ = some (.slice a3 g.ins.length c3) := BX.out.1.cell rfl
    have p4 : wr.cell? ⟨w.heap.size, 4, none⟩ = some (.slice a4 g.outs.length c4) := BX.out.1.cell rfl
    have q1 : wr.cell? ⟨w.heap.size + 1, 1, none⟩ = some (.slice b1 g.actors.length d1) := BX.out.2.1.cell rfl
    have q2 : wr.cell? ⟨w.heap.size + 1, 2, none⟩ = some (.slice b2 g.edges.length d2) := BX.out.2.1.cell rfl
    have q3 : wr.cell? ⟨w.heap.size + 1, 3, none⟩ = some (.slice b3 g.ins.length d3) := BX.out.2.1.cell rfl
    have q4 : wr.cell? ⟨w.heap.size + 1, 4, none⟩ = some (.slice b4 g.outs.length d4) := BX.out.2.1.cell rfl
    by_cases hlt : k < g.actors.length
    · have hki : (k : Int) < (g.actors.length : Int) := by omega
      rcases A1.out.below BX.out.2.2 with e | ⟨g1, o1, rfl, hc1⟩
      · rw [e] at hlt; exact absurd hlt (Nat.not_lt_zero _)
      rcases A2.out.below BX.out.2.2 with e | ⟨g2, o2, rfl, hc2⟩
      · rw [e] at hlt; exact absurd hlt (Nat.not_lt_zero _)
      obtain ⟨x0, x1, -, xa, xc, x2, x3⟩ := hc1 k hlt
      obtain ⟨y0, y1, -, ya, yc, y2, y3⟩ := hc2 k hlt
      have hm := M1.out (nthA g.actors k) (by rw [nthA_get hlt]; exact List.getElem_mem hlt)
      generalize nthA g.actors k = E at *
      obtain ⟨en, tg, ps⟩ := E
      simp only at x0 x1 x2 x3 y0 y1 y2 y3 hm
      have bv := ((Below.refl wr.heap.size wr).alloc (Nat.le_refl _) (.cells #[.string (str en), .int .u8 (tg : Int), .slice xa ps.length xc] 61)).alloc (by simp) (.cells #[.string (str en), .int .u8 (tg : Int), .slice ya ps.length yc] 61)
      have SI := hiddenG (same_any xa ya ps ps.length xc yc _ rfl hm (x3.below bv) (y3.below bv))
      have BV := hiddenG bv
      have es : ((str en).toList == (str en).toList) = true := by simp
      have et : ((tg : Int) != (tg : Int)) = false := by simp
      have zq : (wr.alloc (.cells #[.string (str en), .int .u8 (tg : Int), .slice xa ps.length xc] 61)).cell? ⟨w.heap.size + 1, 1, none⟩ = some (.slice (some ⟨g2, o2, none⟩) g.actors.length d1) := (BX.out.2.1.below ((Below.refl _ _).alloc (Nat.le_refl _) _)).cell rfl
      have k1 := (Below.refl wr.heap.size wr).alloc (Nat.le_refl _) (.cells #[.string (str en), .int .u8 (tg : Int), .slice xa ps.length xc] 61)
      have y0 := cellG k1 y0
      have y1 := cellG k1 y1
      have y2 := cellG k1 y2
      clear hc1 hc2 x3 y3 bv hm k1
      go_wp2_with (go_at_call 21; (with_reducible refine SI.out.mono ?_); rintro e w5 ⟨n5, rfl, rfl⟩)
      go_roundg (g.actors.length - (k + 1))
      case measure => omega
      case rel => exact ⟨k + 1, by omega, rfl, by go_num, (BX.out.1.below (drew_belowG BV.out _)), (BX.out.2.1.below (drew_belowG BV.out _)), drew_belowG (BX.out.2.2.trans (BV.out.mono BX.out.2.2.size)) _⟩
    · have hki : ¬ (k : Int) < (g.actors.length : Int) := by omega
      go_wp2
      go_loopg [8] g.edges.length (fun gk v wr => ∃ k : Nat, k ≤ g.edges.length ∧ gk = g.edges.length - k ∧ v = .int .i64 (k : Int) ∧ BlkA 31 w.heap.size wr #[.string (str g.name), .slice a1 g.actors.length c1, .slice a2 g.edges.length c2, .slice a3 g.ins.length c3, .slice a4 g.outs.length c4] ∧ BlkA 31 (w.heap.size + 1) wr #[.string (str g.name), .slice b1 g.actors.length d1, .slice b2 g.edges.length d2, .slice b3 g.ins.length d3, .slice b4 g.outs.length d4] ∧ Below w.heap.size w wr)
      case atStart => exact ⟨0, Nat.zero_le _, rfl, rfl, BX.out⟩
      case round =>
        clear BX p1 p2 p3 p4 q1 q2 q3 q4 hki hlt
        obtain ⟨k, hk, rfl, rfl, hX⟩ := hrel
        have BX := hiddenG hX
        clear hX
        have p1 : wr.cell? ⟨w.heap.size, 1, none⟩ = some (.slice a1 g.actors.length c1) := BX.out.1.cell rfl
        have p2 : wr.cell? ⟨w.heap.size, 2, none⟩ = some (.slice a2 g.edges.length c2) := BX.out.1.cell rfl
        have p3 : wr.cell? ⟨w.heap.size, 3, none⟩ = some (.slice a3 g.ins.length c3) := BX.out.1.cell rfl
        have p4 : wr.cell? ⟨w.heap.size, 4, none⟩ = some (.slice a4 g.outs.length c4) := BX.out.1.cell rfl
        have q1 : wr.cell? ⟨w.heap.size + 1, 1, none⟩ = some (.slice b1 g.actors.length d1) := BX.out.2.1.cell rfl
        have q2 : wr.cell? ⟨w.heap.size + 1, 2, none⟩ = some (.slice b2 g.edges.length d2) := BX.out.2.1.cell rfl
        have q3 : wr.cell? ⟨w.heap.size + 1, 3, none⟩ = some (.slice b3 g.ins.length d3) := BX.out.2.1.cell rfl
        have q4 : wr.cell? ⟨w.heap.size + 1, 4, none⟩ = some (.slice b4 g.outs.length d4) := BX.out.2.1.cell rfl
        by_cases hlt : k < g.edges.length
        · have hki : (k : Int) < (g.edges.length : Int) := by omega
          rcases E1.out.below BX.out.2.2 with e | ⟨g1, o1, rfl, hc1⟩
          · rw [e] at hlt; exact absurd hlt (Nat.not_lt_zero _)
          rcases E2.out.below BX.out.2.2 with e | ⟨g2, o2, rfl, hc2⟩
          · rw [e] at hlt; exact absurd hlt (Nat.not_lt_zero _)
          obtain ⟨x0, x1, x2, x3, xa, xc, x4, x5⟩ := hc1 k hlt
          obtain ⟨y0, y1, y2, y3, ya, yc, y4, y5⟩ := hc2 k hlt
          have hm := M2.out (nthE g.edges k) (by rw [nthE_get hlt]; exact List.getElem_mem hlt)
          generalize nthE g.edges k = E at *
          obtain ⟨ef, efp, et, etp, ps⟩ := E
          simp only at x0 x1 x2 x3 x4 x5 y0 y1 y2 y3 y4 y5 hm
          have bv := ((Below.refl wr.heap.size wr).alloc (Nat.le_refl _) (.cells #[.int .i64 ef, .int .i64 efp, .int .i64 et, .int .i64 etp, .slice xa ps.length xc] 64)).alloc (by simp) (.cells #[.int .i64 ef, .int .i64 efp, .int .i64 et, .int .i64 etp, .slice ya ps.length yc] 64)
          have SI := hiddenG (same_any xa ya ps ps.length xc yc _ rfl hm (x5.below bv) (y5.below bv))
          have BV := hiddenG bv
          have s1 : (ef != ef) = false := by simp
          have s2 : (efp != efp) = false := by simp
          have s3 : (et != et) = false := by simp
          have s4 : (etp != etp) = false := by simp
          have zq : (wr.alloc (.cells #[.int .i64 ef, .int .i64 efp, .int .i64 et, .int .i64 etp, .slice xa ps.length xc] 64)).cell? ⟨w.heap.size + 1, 2, none⟩ = some (.slice (some ⟨g2, o2, none⟩) g.edges.length d2) := (BX.out.2.1.below ((Below.refl _ _).alloc (Nat.le_refl _) _)).cell rfl
          have k1 := (Below.refl wr.heap.size wr).alloc (Nat.le_refl _) (.cells #[.int .i64 ef, .int .i64 efp, .int .i64 et, .int .i64 etp, .slice xa ps.length xc] 64)
          have y0 := cellG k1 y0
          have y1 := cellG k1 y1
          have y2 := cellG k1 y2
          have y3 := cellG k1 y3
          have y4 := cellG k1 y4
          clear hc1 hc2 x5 y5 bv hm k1
          go_wp2_with (go_at_call 21; (with_reducible refine SI.out.mono ?_); rintro e w5 ⟨n5, rfl, rfl⟩)
          go_roundg (g.edges.length - (k + 1))
          case measure => omega
          case rel => exact ⟨k + 1, by omega, rfl, by go_num, (BX.out.1.below (drew_belowG BV.out _)), (BX.out.2.1.below (drew_belowG BV.out _)), drew_belowG (BX.out.2.2.trans (BV.out.mono BX.out.2.2.size)) _⟩
        · have hki : ¬ (k : Int) < (g.edges.length : Int) := by omega
          go_wp2_with (first
            | (go_at_call 22; (with_reducible refine (PO.out _ BI.out).mono ?_); rintro e w7 ⟨rfl, b7⟩; have BO := hiddenG (BI.out.trans (b7.mono BI.out.size)); clear b7)
            | (go_at_call 22; (with_reducible refine (PI.out _ BX.out.2.2).mono ?_); rintro e w6 ⟨rfl, b6⟩; have BI := hiddenG (BX.out.2.2.trans (b6.mono BX.out.2.2.size)); have p4 := cellG b6 p4; have q4 := cellG b6 q4; clear b6))
          go_ret
          exact ⟨rfl, BO.out⟩
def smallT (tp : Int) (outs : List GP) : GG := ⟨[103], [⟨[97], 2, [2]⟩, ⟨[98], 8, []⟩], [⟨0, 0, 1, tp, [7]⟩], [⟨[120], 0, 0⟩], outs⟩
def smallG : GG := smallT 0 [⟨[121], 1, 0⟩]
theorem small_ok : (firstF smallG).code = 0 := by decide
theorem small_bad : (firstF (smallT 1 [⟨[121], 1, 0⟩])).code = 85 := by decide
theorem small_open : (firstF (smallT 0 [])).code = 87 := by decide
theorem small_back : buildS [103] (drawS smallG) = (smallG, 0, 0) := by rfl
theorem small_draw : (drawS smallG).length = 5 ∧ ((drawS smallG).getD 0 noItm).tag = [117, 112] := by decide
/-- The blocks of a small graph, from b on. -/
structure SmB (b : Nat) (tp : Int) (w : World) : Prop where
  i2 : BlkA 3 (b + 1) w #[.int .i64 2]
  ac : BlkA 61 (b + 2) w #[.string ⟨#[97]⟩, .int .u8 2, .slice (some ⟨b + 1, 0, none⟩) 1 1, .string ⟨#[98]⟩, .int .u8 8, .slice none 0 0]
  i7 : BlkA 3 (b + 3) w #[.int .i64 7]
  ed : BlkA 64 (b + 4) w #[.int .i64 0, .int .i64 0, .int .i64 1, .int .i64 tp, .slice (some ⟨b + 3, 0, none⟩) 1 1]
  pi : BlkA 83 (b + 5) w #[.string ⟨#[120]⟩, .int .i64 0, .int .i64 0]
  po : BlkA 83 (b + 6) w #[.string ⟨#[121]⟩, .int .i64 1, .int .i64 0]
theorem SmB.below {b : Nat} {tp : Int} {w w' : World} (h : SmB b tp w) (hb : Below w.heap.size w w') : SmB b tp w' := ⟨h.i2.below hb, h.ac.below hb, h.i7.below hb, h.ed.below hb, h.pi.below hb, h.po.below hb⟩
theorem SmB.set {b : Nat} {tp : Int} {w : World} (h : SmB b tp w) (x : Int) : SmB b x (w.setCell ⟨b + 4, 3, none⟩ (.int .i64 x)) := by
  have set : ∀ k, k ≠ b + 4 → (w.setCell ⟨b + 4, 3, none⟩ (.int .i64 x)).heap[k]? = w.heap[k]? := fun k hk => Below.heap_setCell w ⟨b + 4, 3, none⟩ _ k hk
  exact ⟨h.i2.keep (set _ (by omega)), h.ac.keep (set _ (by omega)), h.i7.keep (set _ (by omega)), h.ed.set 3 _, h.pi.keep (set _ (by omega)), h.po.keep (set _ (by omega))⟩
theorem inr_one {z : Int} (h : -9223372036854775808 ≤ z ∧ z ≤ 9223372036854775807) : InR [z] := fun k => by
  match k with
  | 0 => exact h
  | k + 1 => exact (by decide : (-9223372036854775808 : Int) ≤ 0 ∧ (0 : Int) ≤ 9223372036854775807)
theorem arg_one {w : World} {g : Nat} {z : Int} (h : BlkA 3 g w #[.int .i64 z]) (hz : -9223372036854775808 ≤ z ∧ z ≤ 9223372036854775807) : Arg w (some ⟨g, 0, none⟩) 1 1 [z] :=
  ⟨rfl, by decide, (fun e => by cases e), inr_one hz, .inr ⟨g, 0, rfl, fun k hk => by
    have e : k = 0 := by simp at hk; omega
    subst e
    exact h.cell rfl⟩, Nat.le_refl _⟩
theorem SmB.gr {b : Nat} {tp : Int} {w : World} (h : SmB b tp w) : GrG w (some ⟨b + 2, 0, none⟩) (some ⟨b + 4, 0, none⟩) (some ⟨b + 5, 0, none⟩) (some ⟨b + 6, 0, none⟩) (smallT tp [⟨[121], 1, 0⟩]) := by
  refine ⟨.inr ⟨b + 2, 0, rfl, fun k hk => ?_⟩, .inr ⟨b + 4, 0, rfl, fun k hk => ?_⟩, .inr ⟨b + 5, 0, rfl, fun k hk => ?_⟩, .inr ⟨b + 6, 0, rfl, fun k hk => ?_⟩, by show 2 ≤ 1000000000000000; decide, by show 1 ≤ 1000000000000000; decide, by show 1 ≤ 1000000000000000; decide, by show 1 ≤ 1000000000000000; decide⟩
  · match k, hk with
    | 0, _ => exact ⟨h.ac.cell (k := 0) rfl, h.ac.cell (k := 1) rfl, by show 2 ≤ 255; decide, _, _, h.ac.cell (k := 2) rfl, arg_one h.i2 (by decide)⟩
    | 1, _ => exact ⟨h.ac.cell (k := 3) rfl, h.ac.cell (k := 4) rfl, by show 8 ≤ 255; decide, _, _, h.ac.cell (k := 5) rfl, arg_nil⟩
    | k + 2, hk => exact absurd hk (by show ¬ k + 2 < 2; omega)
  · match k, hk with
    | 0, _ => exact ⟨h.ed.cell (k := 0) rfl, h.ed.cell (k := 1) rfl, h.ed.cell (k := 2) rfl, h.ed.cell (k := 3) rfl, _, _, h.ed.cell (k := 4) rfl, arg_one h.i7 (by decide)⟩
    | k + 1, hk => exact absurd hk (by show ¬ k + 1 < 1; omega)
  · match k, hk with
    | 0, _ => exact ⟨h.pi.cell (k := 0) rfl, h.pi.cell (k := 1) rfl, h.pi.cell (k := 2) rfl⟩
    | k + 1, hk => exact absurd hk (by show ¬ k + 1 < 1; omega)
  · match k, hk with
    | 0, _ => exact ⟨h.po.cell (k := 0) rfl, h.po.cell (k := 1) rfl, h.po.cell (k := 2) rfl⟩
    | k + 1, hk => exact absurd hk (by show ¬ k + 1 < 1; omega)
theorem SmB.grOpen {b : Nat} {tp : Int} {w : World} (h : SmB b tp w) : GrG w (some ⟨b + 2, 0, none⟩) (some ⟨b + 4, 0, none⟩) (some ⟨b + 5, 0, none⟩) none (smallT tp []) := by
  have g := h.gr
  exact ⟨g.A, g.E, g.I, .inl rfl, g.l1, g.l2, g.l3, Nat.zero_le _⟩
def smallV (b : Nat) : Value := .agg #[.string ⟨#[103]⟩, .slice (some ⟨b + 2, 0, none⟩) 2 2, .slice (some ⟨b + 4, 0, none⟩) 1 1, .slice (some ⟨b + 5, 0, none⟩) 1 1, .slice (some ⟨b + 6, 0, none⟩) 1 1]
def SmallE (w : World) (e : Ending) (w' : World) : Prop := e = .returned (smallV w.heap.size) ∧ SmB w.heap.size 0 w' ∧ Below w.heap.size w w'
set_option maxRecDepth 100000 in
set_option maxHeartbeats 2000000 in
theorem small_any (w : World) : Calls Try.prog 25 #[] w (SmallE w) := by
  have key : Hid (SmB w.heap.size 0 (((((((w.alloc (.cells #[.string ⟨#[]⟩, .slice none 0 0, .slice none 0 0, .slice none 0 0, .slice none 0 0] 31)).alloc (.cells #[.int .i64 2] 3)).alloc (.cells #[.string ⟨#[97]⟩, .int .u8 2, .slice (some ⟨w.heap.size + 1, 0, none⟩) 1 1, .string ⟨#[98]⟩, .int .u8 8, .slice none 0 0] 61)).alloc (.cells #[.int .i64 7] 3)).alloc (.cells #[.int .i64 0, .int .i64 0, .int .i64 1, .int .i64 0, .slice (some ⟨w.heap.size + 3, 0, none⟩) 1 1] 64)).alloc (.cells #[.string ⟨#[120]⟩, .int .i64 0, .int .i64 0] 83)).alloc (.cells #[.string ⟨#[121]⟩, .int .i64 1, .int .i64 0] 83)) ∧ BlkA 31 w.heap.size (((((((w.alloc (.cells #[.string ⟨#[]⟩, .slice none 0 0, .slice none 0 0, .slice none 0 0, .slice none 0 0] 31)).alloc (.cells #[.int .i64 2] 3)).alloc (.cells #[.string ⟨#[97]⟩, .int .u8 2, .slice (some ⟨w.heap.size + 1, 0, none⟩) 1 1, .string ⟨#[98]⟩, .int .u8 8, .slice none 0 0] 61)).alloc (.cells #[.int .i64 7] 3)).alloc (.cells #[.int .i64 0, .int .i64 0, .int .i64 1, .int .i64 0, .slice (some ⟨w.heap.size + 3, 0, none⟩) 1 1] 64)).alloc (.cells #[.string ⟨#[120]⟩, .int .i64 0, .int .i64 0] 83)).alloc (.cells #[.string ⟨#[121]⟩, .int .i64 1, .int .i64 0] 83)) #[.string ⟨#[]⟩, .slice none 0 0, .slice none 0 0, .slice none 0 0, .slice none 0 0] ∧ Below w.heap.size w (((((((w.alloc (.cells #[.string ⟨#[]⟩, .slice none 0 0, .slice none 0 0, .slice none 0 0, .slice none 0 0] 31)).alloc (.cells #[.int .i64 2] 3)).alloc (.cells #[.string ⟨#[97]⟩, .int .u8 2, .slice (some ⟨w.heap.size + 1, 0, none⟩) 1 1, .string ⟨#[98]⟩, .int .u8 8, .slice none 0 0] 61)).alloc (.cells #[.int .i64 7] 3)).alloc (.cells #[.int .i64 0, .int .i64 0, .int .i64 1, .int .i64 0, .slice (some ⟨w.heap.size + 3, 0, none⟩) 1 1] 64)).alloc (.cells #[.string ⟨#[120]⟩, .int .i64 0, .int .i64 0] 83)).alloc (.cells #[.string ⟨#[121]⟩, .int .i64 1, .int .i64 0] 83))) := by
    have st : ∀ (u : World) (o : Obj), (u.alloc o).heap.size = u.heap.size + 1 := fun u o => World.size_alloc u o
    obtain ⟨W1, e1⟩ : ∃ W, w.alloc (.cells #[.string ⟨#[]⟩, .slice none 0 0, .slice none 0 0, .slice none 0 0, .slice none 0 0] 31) = W := ⟨_, rfl⟩
    obtain ⟨W2, e2⟩ : ∃ W, W1.alloc (.cells #[.int .i64 2] 3) = W := ⟨_, rfl⟩
    obtain ⟨W3, e3⟩ : ∃ W, W2.alloc (.cells #[.string ⟨#[97]⟩, .int .u8 2, .slice (some ⟨w.heap.size + 1, 0, none⟩) 1 1, .string ⟨#[98]⟩, .int .u8 8, .slice none 0 0] 61) = W := ⟨_, rfl⟩
    obtain ⟨W4, e4⟩ : ∃ W, W3.alloc (.cells #[.int .i64 7] 3) = W := ⟨_, rfl⟩
    obtain ⟨W5, e5⟩ : ∃ W, W4.alloc (.cells #[.int .i64 0, .int .i64 0, .int .i64 1, .int .i64 0, .slice (some ⟨w.heap.size + 3, 0, none⟩) 1 1] 64) = W := ⟨_, rfl⟩
    obtain ⟨W6, e6⟩ : ∃ W, W5.alloc (.cells #[.string ⟨#[120]⟩, .int .i64 0, .int .i64 0] 83) = W := ⟨_, rfl⟩
    obtain ⟨W7, e7⟩ : ∃ W, W6.alloc (.cells #[.string ⟨#[121]⟩, .int .i64 1, .int .i64 0] 83) = W := ⟨_, rfl⟩
    rw [e1, e2, e3, e4, e5, e6, e7]
    have s1 : W1.heap.size = w.heap.size + 1 := by rw [← e1, st]
    have s2 : W2.heap.size = w.heap.size + 2 := by rw [← e2, st, s1]
    have s3 : W3.heap.size = w.heap.size + 3 := by rw [← e3, st, s2]
    have s4 : W4.heap.size = w.heap.size + 4 := by rw [← e4, st, s3]
    have s5 : W5.heap.size = w.heap.size + 5 := by rw [← e5, st, s4]
    have s6 : W6.heap.size = w.heap.size + 6 := by rw [← e6, st, s5]
    have s7 : W7.heap.size = w.heap.size + 7 := by rw [← e7, st, s6]
    have b0 : Below w.heap.size w W1 := by rw [← e1]; exact (Below.refl _ _).alloc (Nat.le_refl _) _
    have k0 : BlkA 31 (w.heap.size) W1 #[.string ⟨#[]⟩, .slice none 0 0, .slice none 0 0, .slice none 0 0, .slice none 0 0] := by
      have q := blkA_new 31 w #[.string ⟨#[]⟩, .slice none 0 0, .slice none 0 0, .slice none 0 0, .slice none 0 0]
      rw [← e1]
      exact q
    have b1 : Below W1.heap.size W1 W2 := by rw [← e2]; exact (Below.refl _ _).alloc (Nat.le_refl _) _
    have k1 : BlkA 3 (w.heap.size + 1) W2 #[.int .i64 2] := by
      have q := blkA_new 3 W1 #[.int .i64 2]
      rw [s1] at q
      rw [← e2]
      exact q
    have b2 : Below W2.heap.size W2 W3 := by rw [← e3]; exact (Below.refl _ _).alloc (Nat.le_refl _) _
    have k2 : BlkA 61 (w.heap.size + 2) W3 #[.string ⟨#[97]⟩, .int .u8 2, .slice (some ⟨w.heap.size + 1, 0, none⟩) 1 1, .string ⟨#[98]⟩, .int .u8 8, .slice none 0 0] := by
      have q := blkA_new 61 W2 #[.string ⟨#[97]⟩, .int .u8 2, .slice (some ⟨w.heap.size + 1, 0, none⟩) 1 1, .string ⟨#[98]⟩, .int .u8 8, .slice none 0 0]
      rw [s2] at q
      rw [← e3]
      exact q
    have b3 : Below W3.heap.size W3 W4 := by rw [← e4]; exact (Below.refl _ _).alloc (Nat.le_refl _) _
    have k3 : BlkA 3 (w.heap.size + 3) W4 #[.int .i64 7] := by
      have q := blkA_new 3 W3 #[.int .i64 7]
      rw [s3] at q
      rw [← e4]
      exact q
    have b4 : Below W4.heap.size W4 W5 := by rw [← e5]; exact (Below.refl _ _).alloc (Nat.le_refl _) _
    have k4 : BlkA 64 (w.heap.size + 4) W5 #[.int .i64 0, .int .i64 0, .int .i64 1, .int .i64 0, .slice (some ⟨w.heap.size + 3, 0, none⟩) 1 1] := by
      have q := blkA_new 64 W4 #[.int .i64 0, .int .i64 0, .int .i64 1, .int .i64 0, .slice (some ⟨w.heap.size + 3, 0, none⟩) 1 1]
      rw [s4] at q
      rw [← e5]
      exact q
    have b5 : Below W5.heap.size W5 W6 := by rw [← e6]; exact (Below.refl _ _).alloc (Nat.le_refl _) _
    have k5 : BlkA 83 (w.heap.size + 5) W6 #[.string ⟨#[120]⟩, .int .i64 0, .int .i64 0] := by
      have q := blkA_new 83 W5 #[.string ⟨#[120]⟩, .int .i64 0, .int .i64 0]
      rw [s5] at q
      rw [← e6]
      exact q
    have b6 : Below W6.heap.size W6 W7 := by rw [← e7]; exact (Below.refl _ _).alloc (Nat.le_refl _) _
    have k6 : BlkA 83 (w.heap.size + 6) W7 #[.string ⟨#[121]⟩, .int .i64 1, .int .i64 0] := by
      have q := blkA_new 83 W6 #[.string ⟨#[121]⟩, .int .i64 1, .int .i64 0]
      rw [s6] at q
      rw [← e7]
      exact q
    have bw : Below w.heap.size w W7 := by
      have c1 := (b0).trans (b1.mono (by omega))
      have c2 := (c1).trans (b2.mono (by omega))
      have c3 := (c2).trans (b3.mono (by omega))
      have c4 := (c3).trans (b4.mono (by omega))
      have c5 := (c4).trans (b5.mono (by omega))
      have c6 := (c5).trans (b6.mono (by omega))
      exact c6
    exact ⟨⟨(((((k1.below b2).below b3).below b4).below b5).below b6), ((((k2.below b3).below b4).below b5).below b6), (((k3.below b4).below b5).below b6), ((k4.below b5).below b6), (k5.below b6), k6⟩, ((((((k0.below b1).below b2).below b3).below b4).below b5).below b6), bw⟩
  go_enter Try.func25, Try.ntmps25
  go_wp2_with (refine wpList_storeW _ rfl 31 (.tmp 0) (.tmp 12) rfl rfl w.heap.size 31 _ _ rfl rfl key.out.2.1 sizG rfl rfl ?_; intro w8 hN hU; have N8 := hiddenG hN; have U8 := hiddenG hU; clear hN hU)
  have t0 : w8.cell? ⟨w.heap.size, 0, none⟩ = some (.string ⟨#[103]⟩) := N8.out.cell rfl
  have t1 : w8.cell? ⟨w.heap.size, 1, none⟩ = some (.slice (some ⟨w.heap.size + 2, 0, none⟩) 2 2) := N8.out.cell rfl
  have t2 : w8.cell? ⟨w.heap.size, 2, none⟩ = some (.slice (some ⟨w.heap.size + 4, 0, none⟩) 1 1) := N8.out.cell rfl
  have t3 : w8.cell? ⟨w.heap.size, 3, none⟩ = some (.slice (some ⟨w.heap.size + 5, 0, none⟩) 1 1) := N8.out.cell rfl
  have t4 : w8.cell? ⟨w.heap.size, 4, none⟩ = some (.slice (some ⟨w.heap.size + 6, 0, none⟩) 1 1) := N8.out.cell rfl
  refine bodyPost_ret (v := smallV w.heap.size) (by simp [results, Try.results25, go_sem, t0, t1, t2, t3, t4, smallV]) rfl ?_
  have h := key.out.1
  have kp : ∀ k, w.heap.size < k → k < (((((((w.alloc (.cells #[.string ⟨#[]⟩, .slice none 0 0, .slice none 0 0, .slice none 0 0, .slice none 0 0] 31)).alloc (.cells #[.int .i64 2] 3)).alloc (.cells #[.string ⟨#[97]⟩, .int .u8 2, .slice (some ⟨w.heap.size + 1, 0, none⟩) 1 1, .string ⟨#[98]⟩, .int .u8 8, .slice none 0 0] 61)).alloc (.cells #[.int .i64 7] 3)).alloc (.cells #[.int .i64 0, .int .i64 0, .int .i64 1, .int .i64 0, .slice (some ⟨w.heap.size + 3, 0, none⟩) 1 1] 64)).alloc (.cells #[.string ⟨#[120]⟩, .int .i64 0, .int .i64 0] 83)).alloc (.cells #[.string ⟨#[121]⟩, .int .i64 1, .int .i64 0] 83)).heap.size → w8.heap[k]? = (((((((w.alloc (.cells #[.string ⟨#[]⟩, .slice none 0 0, .slice none 0 0, .slice none 0 0, .slice none 0 0] 31)).alloc (.cells #[.int .i64 2] 3)).alloc (.cells #[.string ⟨#[97]⟩, .int .u8 2, .slice (some ⟨w.heap.size + 1, 0, none⟩) 1 1, .string ⟨#[98]⟩, .int .u8 8, .slice none 0 0] 61)).alloc (.cells #[.int .i64 7] 3)).alloc (.cells #[.int .i64 0, .int .i64 0, .int .i64 1, .int .i64 0, .slice (some ⟨w.heap.size + 3, 0, none⟩) 1 1] 64)).alloc (.cells #[.string ⟨#[120]⟩, .int .i64 0, .int .i64 0] 83)).alloc (.cells #[.string ⟨#[121]⟩, .int .i64 1, .int .i64 0] 83)).heap[k]? := fun k h1 h2 => U8.out.block k h2 (Nat.ne_of_gt h1)
  refine ⟨rfl, ⟨h.i2.keep (kp _ (by omega) h.i2.lt), h.ac.keep (kp _ (by omega) h.ac.lt), h.i7.keep (kp _ (by omega) h.i7.lt), h.ed.keep (kp _ (by omega) h.ed.lt), h.pi.keep (kp _ (by omega) h.pi.lt), h.po.keep (kp _ (by omega) h.po.lt)⟩, key.out.2.2.trans (U8.out.below (Nat.le_refl _) key.out.2.2.size)⟩
theorem name_len {l : List UInt8} (h : nameB l = true) : l.length ≤ 16 := by
  unfold nameB at h
  simp only [Bool.and_eq_true, decide_eq_true_eq] at h
  exact h.1
theorem ints_argG {B : Nat} {w : World} {q : Value} {ns : List Int} (h : Ints B w q ns) (ho : NumsOk ns) : ∃ x c, q = .slice x ns.length c ∧ Arg w x ns.length c ns := by
  obtain ⟨a, cap, e, -, h1, h2, h3, -⟩ := owns_at (n := ns.length) (zs := ns) h
  exact ⟨a, cap, e, ⟨rfl, ho.2, h3, ho.1, h1, h2⟩⟩
theorem nums_nil : NumsOk [] := ⟨inR0, by decide⟩
theorem memA {As : List GA} {x : GA} (h : x ∈ As) : ∃ k, k < As.length ∧ x = nthA As k := by
  obtain ⟨k, hk, rfl⟩ := List.mem_iff_getElem.1 h
  exact ⟨k, hk, (nthA_get hk).symm⟩
theorem memE {As : List GE} {x : GE} (h : x ∈ As) : ∃ k, k < As.length ∧ x = nthE As k := by
  obtain ⟨k, hk, rfl⟩ := List.mem_iff_getElem.1 h
  exact ⟨k, hk, (nthE_get hk).symm⟩
theorem memP {As : List GP} {x : GP} (h : x ∈ As) : ∃ k, k < As.length ∧ x = nthP As k := by
  obtain ⟨k, hk, rfl⟩ := List.mem_iff_getElem.1 h
  exact ⟨k, hk, (nthP_get hk).symm⟩
theorem plc_len {g : GG} (hS : SoundG g) {a p : Int} (h0 : 0 ≤ a) (h1 : a < (g.actors.length : Int)) : (plcS g a p).name.length ≤ 16 := name_len (actor_ok (hS.acts a.toNat (by omega))).1
def SmallI (x : Itm) : Prop := NumsOk x.nums ∧ x.name.length ≤ 140737488355328 ∧ x.frm.name.length ≤ 140737488355328 ∧ x.tgt.name.length ≤ 140737488355328
theorem draw_small {g : GG} (hS : SoundG g) (hA : ∀ a ∈ g.actors, NumsOk a.params) (hE : ∀ e ∈ g.edges, NumsOk e.start) : ∀ x ∈ drawS g, SmallI x := by
  intro x hx
  unfold drawS at hx
  simp only [List.mem_append, List.mem_map] at hx
  rcases hx with ⟨a, ha, rfl⟩ | ⟨e, he, rfl⟩ | ⟨p, hp, rfl⟩ | ⟨p, hp, rfl⟩
  · obtain ⟨k, hk, rfl⟩ := memA ha
    have h1 := name_len (actor_ok (hS.acts k hk)).1
    exact ⟨hA _ ha, by show (nthA g.actors k).name.length ≤ _; omega, Nat.zero_le _, Nat.zero_le _⟩
  · obtain ⟨k, hk, rfl⟩ := memE he
    have h1 := (edge_ok (hS.edges k hk)).1
    have q1 := plc_len hS (p := (nthE g.edges k).fp) h1.f0 h1.f1
    have q2 := plc_len hS (p := (nthE g.edges k).tp) h1.t0 h1.t1
    exact ⟨hE _ he, Nat.zero_le _, by show (plcS g _ _).name.length ≤ _; omega, by show (plcS g _ _).name.length ≤ _; omega⟩
  · obtain ⟨k, hk, rfl⟩ := memP hp
    have h1 := in_ok (hS.ins k hk)
    have q1 := plc_len hS (p := (nthP g.ins k).port) h1.2.2.1.1 h1.2.2.1.2.1
    have q2 := name_len h1.1
    exact ⟨nums_nil, by show (nthP g.ins k).name.length ≤ _; omega, Nat.zero_le _, by show (plcS g _ _).name.length ≤ _; omega⟩
  · obtain ⟨k, hk, rfl⟩ := memP hp
    have h1 := out_ok (hS.outs k hk)
    have q1 := plc_len hS (p := (nthP g.outs k).port) h1.2.2.1.1 h1.2.2.1.2.1
    have q2 := name_len h1.1
    exact ⟨nums_nil, by show (nthP g.outs k).name.length ≤ _; omega, by show (plcS g _ _).name.length ≤ _; omega, Nat.zero_le _⟩
theorem draw_len (g : GG) (hS : SoundG g) : (drawS g).length ≤ 160 := by
  have h := head_ok hS.head
  unfold drawS
  simp only [List.length_append, List.length_map]
  omega
theorem its_items {B : Nat} {w : World} {a : Option Addr} {c : Nat} {M : List (Itm × Value)} (h : Its B w (.slice a M.length c) M) (hs : ∀ x ∈ M.map Prod.fst, SmallI x) : ItR w a M ∧ ItO w M :=
  ⟨h.at5, ⟨fun p hp => ints_argG (h.nums p hp) (hs p.1 (List.mem_map_of_mem hp)).1, fun p hp => (hs p.1 (List.mem_map_of_mem hp)).2⟩⟩
/-- A graph that was built lies there. -/
theorem GOwn.gr {B : Nat} {w : World} {x1 x2 x3 x4 : Option Addr} {n1 n2 n3 n4 d1 d2 d3 d4 : Nat} {nm : List UInt8} {As : List (GA × Value)} {Es : List (GE × Value)} {Ps Os : List GP} (h : GOwn B w (.slice x1 n1 d1) (.slice x2 n2 d2) (.slice x3 n3 d3) (.slice x4 n4 d4) As Es Ps Os) (ha : ∀ p ∈ As, p.1.tag ≤ 255 ∧ NumsOk p.1.params) (he : ∀ p ∈ Es, NumsOk p.1.start)
    (l1 : As.length ≤ 1000000000000000) (l2 : Es.length ≤ 1000000000000000) (l3 : Ps.length ≤ 1000000000000000) (l4 : Os.length ≤ 1000000000000000) : GrG w x1 x2 x3 x4 ⟨nm, As.map Prod.fst, Es.map Prod.fst, Ps, Os⟩ :=
  ⟨rowA_gr h.rw.r1 (fun p hp => ⟨(ha p hp).1, ints_argG (h.n1 p hp) (ha p hp).2⟩), rowE_gr h.rw.r2 (fun p hp => ints_argG (h.n2 p hp) (he p hp)), rowP_at h.rw.r3, rowP_at h.rw.r4, by show (As.map Prod.fst).length ≤ _; rw [List.length_map]; exact l1, by show (Es.map Prod.fst).length ≤ _; rw [List.length_map]; exact l2, l3, l4⟩
theorem small_sound : SoundG smallG := (sound_iff smallG).1 small_ok
theorem small_numsA : ∀ a ∈ smallG.actors, NumsOk a.params := by
  intro a ha
  have e : smallG.actors = [⟨[97], 2, [2]⟩, ⟨[98], 8, []⟩] := rfl
  rw [e] at ha
  rcases List.mem_cons.1 ha with rfl | ha
  · exact ⟨inr_one (by decide), by decide⟩
  · rw [List.mem_singleton.1 ha]; exact nums_nil
theorem small_numsE : ∀ e ∈ smallG.edges, NumsOk e.start := by
  intro a ha
  have e : smallG.edges = [⟨0, 0, 1, 0, [7]⟩] := rfl
  rw [e] at ha
  rw [List.mem_singleton.1 ha]
  exact ⟨inr_one (by decide), by decide⟩
/-- The drawing of a sound graph. -/
theorem draw_yes (g : GG) (hS : SoundG g) (a1 a2 a3 a4 : Option Addr) (c1 c2 c3 c4 : Nat) (w : World) (h : GrG w a1 a2 a3 a4 g) :
    Calls Try.prog 26 #[.agg #[.string (str g.name), .slice a1 g.actors.length c1, .slice a2 g.edges.length c2, .slice a3 g.ins.length c3, .slice a4 g.outs.length c4]] w fun e w' => ∃ a c M, e = .returned (.tuple #[.agg #[.string (str g.name), .slice a M.length c], .int .i64 0]) ∧ M.map Prod.fst = drawS g ∧ Its w.heap.size w' (.slice a M.length c) M ∧ Below w.heap.size w w' := by
  refine (draw_any g a1 a2 a3 a4 c1 c2 c3 c4 w h).mono fun e w' q => ?_
  unfold DrawEnd at q
  rw [if_pos ((sound_iff g).2 hS)] at q
  exact q
set_option maxRecDepth 100000 in
theorem build_small (w : World) (a : Option Addr) (c : Nat) (M : List (Itm × Value)) (hM : M.map Prod.fst = drawS smallG) {B : Nat} (hI : Its B w (.slice a M.length c) M) :
    Calls Try.prog 6 #[.agg #[.string ⟨#[103]⟩, .slice a M.length c]] w fun e w' => ∃ x1 x2 x3 x4 d1 d2 d3 d4, e = .returned (.tuple #[.agg #[.string ⟨#[103]⟩, .slice x1 2 d1, .slice x2 1 d2, .slice x3 1 d3, .slice x4 1 d4], .agg #[.int .i64 0, .int .i64 0]]) ∧ GrG w' x1 x2 x3 x4 smallG ∧ Below w.heap.size w w' := by
  have hl : M.length ≤ 160 := by have e := congrArg List.length hM; rw [List.length_map] at e; rw [e]; exact draw_len smallG small_sound
  have hi := its_items hI (by rw [hM]; exact draw_small small_sound small_numsA small_numsE)
  have r := build_any [103] a M.length c M w rfl hi.1 hi.2 (by omega)
  rw [hM] at r
  refine r.mono fun e w' he => ?_
  unfold BuildE at he
  rw [small_back, if_pos rfl] at he
  obtain ⟨v1, v2, v3, v4, As, Es, rfl, hG, hA, hE, nA, nE, hb⟩ := he
  have l1 : As.length = 2 := by have e := congrArg List.length hA; rw [List.length_map] at e; exact e
  have l2 : Es.length = 1 := by have e := congrArg List.length hE; rw [List.length_map] at e; exact e
  have s1 := own_slice hG.rw.r1
  have s2 := own_slice hG.rw.r2
  have s3 := own_slice hG.rw.r3
  have s4 := own_slice hG.rw.r4
  obtain ⟨x1, d1, rfl⟩ := s1
  obtain ⟨x2, d2, rfl⟩ := s2
  obtain ⟨x3, d3, rfl⟩ := s3
  obtain ⟨x4, d4, rfl⟩ := s4
  have g := hG.gr (nm := [103]) nA nE (by omega) (by omega) (by show 1 ≤ 1000000000000000; decide) (by show 1 ≤ 1000000000000000; decide)
  rw [hA, hE] at g
  refine ⟨x1, x2, x3, x4, d1, d2, d3, d4, ?_, g, hb⟩
  rw [l1, l2]
  rfl
theorem check_of (g : GG) (cd : Int) (hc : (firstF g).code = cd) (a1 a2 a3 a4 : Option Addr) (c1 c2 c3 c4 : Nat) (w : World) (h : GrG w a1 a2 a3 a4 g) :
    Calls Try.prog 27 #[.agg #[.string (str g.name), .slice a1 g.actors.length c1, .slice a2 g.edges.length c2, .slice a3 g.ins.length c3, .slice a4 g.outs.length c4]] w fun e w' => e = .returned (.int .i64 cd) ∧ Below w.heap.size w w' := by
  rw [← hc]
  exact check_any g a1 a2 a3 a4 c1 c2 c3 c4 w h
theorem Its.cell2 {B : Nat} {w : World} {a : Option Addr} {c : Nat} {M : List (Itm × Value)} (h : Its B w (.slice a M.length c) M) (h0 : 0 < M.length) : ∃ g, a = some ⟨g, 0, none⟩ ∧ w.cell? ⟨g, 2, none⟩ = some (.string (str (nthI M 0).1.tag)) := by
  rcases h.at5.lie with e | ⟨g, off, e, hc⟩
  · rw [e] at h0; exact absurd h0 (Nat.not_lt_zero _)
  · obtain ⟨g', e', -⟩ := own_open h.row h0
    have c2 := (hc 0 h0).c2
    rw [e'] at e
    cases e
    exact ⟨g, e', c2⟩
set_option maxRecDepth 100000 in
set_option maxHeartbeats 16000000 in
theorem awake8 (w : World) : Calls Try.prog 10 #[] w fun e w' => e = .returned (.bool true) ∧ Below w.heap.size w w' := by
  have SM : Hid (∀ U, Calls Try.prog 25 #[] U fun e w' => e = .returned (.agg #[.string ⟨#[103]⟩, .slice (some ⟨U.heap.size + 2, 0, none⟩) 2 2, .slice (some ⟨U.heap.size + 4, 0, none⟩) 1 1, .slice (some ⟨U.heap.size + 5, 0, none⟩) 1 1, .slice (some ⟨U.heap.size + 6, 0, none⟩) 1 1]) ∧ SmB U.heap.size 0 w' ∧ Below U.heap.size U w') := fun U => small_any U
  go_enter Try.func10, Try.ntmps10
  go_upto_region 2 with (go_at_call 25; (with_reducible refine (SM.out _).mono ?_); rintro e w1 ⟨rfl, s1, b1⟩; have S1 := hiddenG s1; have B1 := hiddenG b1; clear s1 b1)
  have bv := (Below.refl w1.heap.size w1).alloc (Nat.le_refl _) (.cells #[.string ⟨#[103]⟩, .slice (some ⟨w.heap.size + 2, 0, none⟩) 2 2, .slice (some ⟨w.heap.size + 4, 0, none⟩) 1 1, .slice (some ⟨w.heap.size + 5, 0, none⟩) 1 1, .slice (some ⟨w.heap.size + 6, 0, none⟩) 1 1] 31)
  have X1 := hiddenG (blkA_new 31 w1 #[.string ⟨#[103]⟩, .slice (some ⟨w.heap.size + 2, 0, none⟩) 2 2, .slice (some ⟨w.heap.size + 4, 0, none⟩) 1 1, .slice (some ⟨w.heap.size + 5, 0, none⟩) 1 1, .slice (some ⟨w.heap.size + 6, 0, none⟩) 1 1])
  have SV := hiddenG (S1.out.below bv)
  have BV1 := hiddenG (B1.out.trans (bv.mono B1.out.size))
  clear bv S1 B1
  generalize hb1 : w1.heap.size = t1 at *
  generalize w1.alloc (.cells #[.string ⟨#[103]⟩, .slice (some ⟨w.heap.size + 2, 0, none⟩) 2 2, .slice (some ⟨w.heap.size + 4, 0, none⟩) 1 1, .slice (some ⟨w.heap.size + 5, 0, none⟩) 1 1, .slice (some ⟨w.heap.size + 6, 0, none⟩) 1 1] 31) = V1 at *
  have p0 : V1.cell? ⟨t1, 0, none⟩ = some (.string ⟨#[103]⟩) := X1.out.cell rfl
  have p1 : V1.cell? ⟨t1, 1, none⟩ = some (.slice (some ⟨w.heap.size + 2, 0, none⟩) 2 2) := X1.out.cell rfl
  have p2 : V1.cell? ⟨t1, 2, none⟩ = some (.slice (some ⟨w.heap.size + 4, 0, none⟩) 1 1) := X1.out.cell rfl
  have p3 : V1.cell? ⟨t1, 3, none⟩ = some (.slice (some ⟨w.heap.size + 5, 0, none⟩) 1 1) := X1.out.cell rfl
  have p4 : V1.cell? ⟨t1, 4, none⟩ = some (.slice (some ⟨w.heap.size + 6, 0, none⟩) 1 1) := X1.out.cell rfl
  have DR : Hid (Calls Try.prog 26 #[.agg #[.string ⟨#[103]⟩, .slice (some ⟨w.heap.size + 2, 0, none⟩) 2 2, .slice (some ⟨w.heap.size + 4, 0, none⟩) 1 1, .slice (some ⟨w.heap.size + 5, 0, none⟩) 1 1, .slice (some ⟨w.heap.size + 6, 0, none⟩) 1 1]] V1 fun e w' => ∃ a c M, e = .returned (.tuple #[.agg #[.string ⟨#[103]⟩, .slice a M.length c], .int .i64 0]) ∧ M.map Prod.fst = drawS smallG ∧ Its V1.heap.size w' (.slice a M.length c) M ∧ Below V1.heap.size V1 w') := draw_yes smallG small_sound _ _ _ _ 2 1 1 1 V1 SV.out.gr
  clear hb1
  go_upto_region 3 with (go_at_call 26; (with_reducible refine DR.out.mono ?_); rintro e w2 ⟨ia, ic, M, rfl, hM, hI, b2⟩; have HM := hiddenG hM; have HI := hiddenG hI; have B2 := hiddenG b2; clear hM hI b2 p0 p1 p2 p3 p4)
  have bv := (Below.refl w2.heap.size w2).alloc (Nat.le_refl _) (.cells #[.string ⟨#[103]⟩, .slice ia M.length ic] 24)
  have e12 := B2.out.trans (bv.mono B2.out.size)
  have X2 := hiddenG (X1.out.below e12)
  have S2 := hiddenG (SV.out.below e12)
  have Y2 := hiddenG (blkA_new 24 w2 #[.string ⟨#[103]⟩, .slice ia M.length ic])
  have I2 := hiddenG (HI.out.below bv)
  have BV2 := hiddenG (BV1.out.trans (e12.mono BV1.out.size))
  have HML : Hid (M.length = 5) := by show _ = _; have e := congrArg List.length HM.out; rw [List.length_map] at e; rw [e]; exact small_draw.1
  have HMT : Hid ((nthI M 0).1.tag = [117, 112]) := by show _ = _; rw [← map_getD (by have := HML.out; omega), HM.out]; exact small_draw.2
  clear bv e12 B2 HI X1 SV BV1 DR
  generalize hb2 : w2.heap.size = t2 at *
  generalize hV2 : w2.alloc (.cells #[.string ⟨#[103]⟩, .slice ia M.length ic] 24) = V2 at *
  clear hb2 hV2
  have p0 : V2.cell? ⟨t2, 0, none⟩ = some (.string ⟨#[103]⟩) := Y2.out.cell rfl
  have p1 : V2.cell? ⟨t2, 1, none⟩ = some (.slice ia M.length ic) := Y2.out.cell rfl
  have BL := hiddenG (build_small V2 ia ic M HM.out I2.out)
  go_upto_region 4 with (go_at_call 6; (with_reducible refine BL.out.mono ?_); rintro e w3 ⟨x1, x2, x3, x4, d1, d2, d3, d4, rfl, hG, b3⟩; have HG3 := hiddenG hG; have B3 := hiddenG b3; clear hG b3 p0 p1)
  have bv := ((Below.refl w3.heap.size w3).alloc (Nat.le_refl _) (.cells #[.string ⟨#[103]⟩, .slice x1 2 d1, .slice x2 1 d2, .slice x3 1 d3, .slice x4 1 d4] 31)).alloc (by simp) (.cells #[.int .i64 0, .int .i64 0] 34)
  have e23 := B3.out.trans (bv.mono B3.out.size)
  have X3 := hiddenG (X2.out.below e23)
  have S3 := hiddenG (S2.out.below e23)
  have Y3 := hiddenG (Y2.out.below e23)
  have I3 := hiddenG (I2.out.below e23)
  have G3 := hiddenG (HG3.out.below bv)
  have H3 := hiddenG ((blkA_new 31 w3 #[.string ⟨#[103]⟩, .slice x1 2 d1, .slice x2 1 d2, .slice x3 1 d3, .slice x4 1 d4]).below ((Below.refl _ _).alloc (Nat.le_refl _) (.cells #[.int .i64 0, .int .i64 0] 34)))
  have F3 : Hid (BlkA 34 (w3.heap.size + 1) ((w3.alloc (.cells #[.string ⟨#[103]⟩, .slice x1 2 d1, .slice x2 1 d2, .slice x3 1 d3, .slice x4 1 d4] 31)).alloc (.cells #[.int .i64 0, .int .i64 0] 34)) #[.int .i64 0, .int .i64 0]) := by
    have q := blkA_new 34 (w3.alloc (.cells #[.string ⟨#[103]⟩, .slice x1 2 d1, .slice x2 1 d2, .slice x3 1 d3, .slice x4 1 d4] 31)) #[.int .i64 0, .int .i64 0]
    rw [World.size_alloc] at q
    exact q
  have BV3 := hiddenG (BV2.out.trans (e23.mono BV2.out.size))
  clear bv e23 B3 HG3 X2 S2 Y2 I2 BV2 BL
  generalize hb3 : w3.heap.size = t4 at *
  generalize hV3 : (w3.alloc (.cells #[.string ⟨#[103]⟩, .slice x1 2 d1, .slice x2 1 d2, .slice x3 1 d3, .slice x4 1 d4] 31)).alloc (.cells #[.int .i64 0, .int .i64 0] 34) = V3 at *
  clear hb3 hV3
  go_upto_region 5 with (go_at_call 25; (with_reducible refine (SM.out _).mono ?_); rintro e w4 ⟨rfl, s1, b1⟩; have SB4 := hiddenG s1; have B4 := hiddenG b1; clear s1 b1)
  obtain ⟨u4, HU4⟩ : ∃ q, Hid (V3.heap.size = q) := ⟨_, hiddenG rfl⟩
  have bv := (Below.refl w4.heap.size w4).alloc (Nat.le_refl _) (.cells #[.string ⟨#[103]⟩, .slice (some ⟨V3.heap.size + 2, 0, none⟩) 2 2, .slice (some ⟨V3.heap.size + 4, 0, none⟩) 1 1, .slice (some ⟨V3.heap.size + 5, 0, none⟩) 1 1, .slice (some ⟨V3.heap.size + 6, 0, none⟩) 1 1] 31)
  have X4 := hiddenG (blkA_new 31 w4 #[.string ⟨#[103]⟩, .slice (some ⟨V3.heap.size + 2, 0, none⟩) 2 2, .slice (some ⟨V3.heap.size + 4, 0, none⟩) 1 1, .slice (some ⟨V3.heap.size + 5, 0, none⟩) 1 1, .slice (some ⟨V3.heap.size + 6, 0, none⟩) 1 1])
  have SC4 := hiddenG (SB4.out.below bv)
  have c2 : (w4.alloc (.cells #[.string ⟨#[103]⟩, .slice (some ⟨V3.heap.size + 2, 0, none⟩) 2 2, .slice (some ⟨V3.heap.size + 4, 0, none⟩) 1 1, .slice (some ⟨V3.heap.size + 5, 0, none⟩) 1 1, .slice (some ⟨V3.heap.size + 6, 0, none⟩) 1 1] 31)).cell? ⟨w4.heap.size, 2, none⟩ = some (.slice (some ⟨V3.heap.size + 4, 0, none⟩) 1 1) := X4.out.cell rfl
  have ce := SC4.out.ed.cell (k := 3) rfl
  have cf := SC4.out.ed.frozen 3
  have n46 : Hid (V3.heap.size + 4 ≠ w4.heap.size) := Nat.ne_of_lt SB4.out.ed.lt
  have T4 : Hid (Below V3.heap.size V3 ((w4.alloc (.cells #[.string ⟨#[103]⟩, .slice (some ⟨V3.heap.size + 2, 0, none⟩) 2 2, .slice (some ⟨V3.heap.size + 4, 0, none⟩) 1 1, .slice (some ⟨V3.heap.size + 5, 0, none⟩) 1 1, .slice (some ⟨V3.heap.size + 6, 0, none⟩) 1 1] 31)).setCell ⟨V3.heap.size + 4, 3, none⟩ (.int .i64 1))) := by
    have q := B4.out.trans (bv.mono B4.out.size)
    exact q.setCell (p := ⟨V3.heap.size + 4, 3, none⟩) (Nat.le_add_right _ 4) _
  have XC4 : Hid (BlkA 31 w4.heap.size ((w4.alloc (.cells #[.string ⟨#[103]⟩, .slice (some ⟨V3.heap.size + 2, 0, none⟩) 2 2, .slice (some ⟨V3.heap.size + 4, 0, none⟩) 1 1, .slice (some ⟨V3.heap.size + 5, 0, none⟩) 1 1, .slice (some ⟨V3.heap.size + 6, 0, none⟩) 1 1] 31)).setCell ⟨V3.heap.size + 4, 3, none⟩ (.int .i64 1)) #[.string ⟨#[103]⟩, .slice (some ⟨V3.heap.size + 2, 0, none⟩) 2 2, .slice (some ⟨V3.heap.size + 4, 0, none⟩) 1 1, .slice (some ⟨V3.heap.size + 5, 0, none⟩) 1 1, .slice (some ⟨V3.heap.size + 6, 0, none⟩) 1 1]) := X4.out.keep (Below.heap_setCell _ ⟨V3.heap.size + 4, 3, none⟩ _ _ (Ne.symm n46.out))
  have SE4 := hiddenG (SC4.out.set 1)
  clear bv SB4 B4 SC4 X4 n46
  generalize hV4 : w4.alloc (.cells #[.string ⟨#[103]⟩, .slice (some ⟨V3.heap.size + 2, 0, none⟩) 2 2, .slice (some ⟨V3.heap.size + 4, 0, none⟩) 1 1, .slice (some ⟨V3.heap.size + 5, 0, none⟩) 1 1, .slice (some ⟨V3.heap.size + 6, 0, none⟩) 1 1] 31) = V4 at *
  generalize hb4 : w4.heap.size = t6 at *
  clear hV4 hb4
  go_upto_region 6 with fail
  generalize hW4 : V4.setCell ⟨V3.heap.size + 4, 3, none⟩ (.int .i64 1) = W4 at *
  clear hW4 c2 ce cf
  have X5 := hiddenG (X3.out.below T4.out)
  have S5 := hiddenG (S3.out.below T4.out)
  have Y5 := hiddenG (Y3.out.below T4.out)
  have I5 := hiddenG (I3.out.below T4.out)
  have G5 := hiddenG (G3.out.below T4.out)
  have H5 := hiddenG (H3.out.below T4.out)
  have F5 := hiddenG (F3.out.below T4.out)
  have BV5 := hiddenG (BV3.out.trans (T4.out.mono BV3.out.size))
  clear X3 S3 Y3 I3 G3 H3 F3 BV3 T4
  rw [HU4.out] at XC4 SE4
  go_upto_region 7 with (go_at_call 25; (with_reducible refine (SM.out _).mono ?_); rintro e w5 ⟨rfl, s1, b1⟩; have SB5 := hiddenG s1; have B5 := hiddenG b1; clear s1 b1)
  obtain ⟨u5, HU5⟩ : ∃ q, Hid (W4.heap.size = q) := ⟨_, hiddenG rfl⟩
  have bv := (Below.refl w5.heap.size w5).alloc (Nat.le_refl _) (.cells #[.string ⟨#[103]⟩, .slice (some ⟨W4.heap.size + 2, 0, none⟩) 2 2, .slice (some ⟨W4.heap.size + 4, 0, none⟩) 1 1, .slice (some ⟨W4.heap.size + 5, 0, none⟩) 1 1, .slice (some ⟨W4.heap.size + 6, 0, none⟩) 1 1] 31)
  have X6 := hiddenG (blkA_new 31 w5 #[.string ⟨#[103]⟩, .slice (some ⟨W4.heap.size + 2, 0, none⟩) 2 2, .slice (some ⟨W4.heap.size + 4, 0, none⟩) 1 1, .slice (some ⟨W4.heap.size + 5, 0, none⟩) 1 1, .slice (some ⟨W4.heap.size + 6, 0, none⟩) 1 1])
  have SC5 := hiddenG (SB5.out.below bv)
  have c4 := X6.out.cell (k := 4) rfl
  have f4 := X6.out.frozen 4
  have T5 : Hid (Below W4.heap.size W4 ((w5.alloc (.cells #[.string ⟨#[103]⟩, .slice (some ⟨W4.heap.size + 2, 0, none⟩) 2 2, .slice (some ⟨W4.heap.size + 4, 0, none⟩) 1 1, .slice (some ⟨W4.heap.size + 5, 0, none⟩) 1 1, .slice (some ⟨W4.heap.size + 6, 0, none⟩) 1 1] 31)).setCell ⟨w5.heap.size, 4, none⟩ (.slice none 0 0))) := by
    have q := B5.out.trans (bv.mono B5.out.size)
    exact q.setCell (p := ⟨w5.heap.size, 4, none⟩) B5.out.size _
  have XC5 : Hid (BlkA 31 w5.heap.size ((w5.alloc (.cells #[.string ⟨#[103]⟩, .slice (some ⟨W4.heap.size + 2, 0, none⟩) 2 2, .slice (some ⟨W4.heap.size + 4, 0, none⟩) 1 1, .slice (some ⟨W4.heap.size + 5, 0, none⟩) 1 1, .slice (some ⟨W4.heap.size + 6, 0, none⟩) 1 1] 31)).setCell ⟨w5.heap.size, 4, none⟩ (.slice none 0 0)) #[.string ⟨#[103]⟩, .slice (some ⟨W4.heap.size + 2, 0, none⟩) 2 2, .slice (some ⟨W4.heap.size + 4, 0, none⟩) 1 1, .slice (some ⟨W4.heap.size + 5, 0, none⟩) 1 1, .slice none 0 0]) := X6.out.set 4 _
  have SE5 : Hid (SmB W4.heap.size 0 ((w5.alloc (.cells #[.string ⟨#[103]⟩, .slice (some ⟨W4.heap.size + 2, 0, none⟩) 2 2, .slice (some ⟨W4.heap.size + 4, 0, none⟩) 1 1, .slice (some ⟨W4.heap.size + 5, 0, none⟩) 1 1, .slice (some ⟨W4.heap.size + 6, 0, none⟩) 1 1] 31)).setCell ⟨w5.heap.size, 4, none⟩ (.slice none 0 0))) := by
    have h := SC5.out
    have l := SB5.out
    have st : ∀ k, k < w5.heap.size → ((w5.alloc (.cells #[.string ⟨#[103]⟩, .slice (some ⟨W4.heap.size + 2, 0, none⟩) 2 2, .slice (some ⟨W4.heap.size + 4, 0, none⟩) 1 1, .slice (some ⟨W4.heap.size + 5, 0, none⟩) 1 1, .slice (some ⟨W4.heap.size + 6, 0, none⟩) 1 1] 31)).setCell ⟨w5.heap.size, 4, none⟩ (.slice none 0 0)).heap[k]? = (w5.alloc (.cells #[.string ⟨#[103]⟩, .slice (some ⟨W4.heap.size + 2, 0, none⟩) 2 2, .slice (some ⟨W4.heap.size + 4, 0, none⟩) 1 1, .slice (some ⟨W4.heap.size + 5, 0, none⟩) 1 1, .slice (some ⟨W4.heap.size + 6, 0, none⟩) 1 1] 31)).heap[k]? := fun k hk => Below.heap_setCell _ ⟨w5.heap.size, 4, none⟩ _ k (Nat.ne_of_lt hk)
    exact ⟨h.i2.keep (st _ l.i2.lt), h.ac.keep (st _ l.ac.lt), h.i7.keep (st _ l.i7.lt), h.ed.keep (st _ l.ed.lt), h.pi.keep (st _ l.pi.lt), h.po.keep (st _ l.po.lt)⟩
  clear bv SB5 B5 SC5 X6
  generalize hV5 : w5.alloc (.cells #[.string ⟨#[103]⟩, .slice (some ⟨W4.heap.size + 2, 0, none⟩) 2 2, .slice (some ⟨W4.heap.size + 4, 0, none⟩) 1 1, .slice (some ⟨W4.heap.size + 5, 0, none⟩) 1 1, .slice (some ⟨W4.heap.size + 6, 0, none⟩) 1 1] 31) = V5 at *
  generalize hb5 : w5.heap.size = t7 at *
  clear hV5 hb5
  go_upto_region 8 with fail
  generalize hW5 : V5.setCell ⟨t7, 4, none⟩ (.slice none 0 0) = W5 at *
  clear hW5 c4 f4
  have X7 := hiddenG (X5.out.below T5.out)
  have S7 := hiddenG (S5.out.below T5.out)
  have Y7 := hiddenG (Y5.out.below T5.out)
  have I7 := hiddenG (I5.out.below T5.out)
  have G7 := hiddenG (G5.out.below T5.out)
  have H7 := hiddenG (H5.out.below T5.out)
  have F7 := hiddenG (F5.out.below T5.out)
  have XB7 := hiddenG (XC4.out.below T5.out)
  have SB7 := hiddenG (SE4.out.below T5.out)
  have BV7 := hiddenG (BV5.out.trans (T5.out.mono BV5.out.size))
  clear X5 S5 Y5 I5 G5 H5 F5 BV5 T5 XC4 SE4
  rw [HU5.out] at XC5 SE5
  have CK1 : Hid (Calls Try.prog 27 #[.agg #[.string ⟨#[103]⟩, .slice (some ⟨w.heap.size + 2, 0, none⟩) 2 2, .slice (some ⟨w.heap.size + 4, 0, none⟩) 1 1, .slice (some ⟨w.heap.size + 5, 0, none⟩) 1 1, .slice (some ⟨w.heap.size + 6, 0, none⟩) 1 1]] W5 fun e w' => e = .returned (.int .i64 0) ∧ Below W5.heap.size W5 w') := check_of smallG 0 small_ok _ _ _ _ 2 1 1 1 W5 S7.out.gr
  have CK2 : Hid (∀ U, Below W5.heap.size W5 U → Calls Try.prog 27 #[.agg #[.string ⟨#[103]⟩, .slice (some ⟨u4 + 2, 0, none⟩) 2 2, .slice (some ⟨u4 + 4, 0, none⟩) 1 1, .slice (some ⟨u4 + 5, 0, none⟩) 1 1, .slice (some ⟨u4 + 6, 0, none⟩) 1 1]] U fun e w' => e = .returned (.int .i64 85) ∧ Below U.heap.size U w') := fun U hb => check_of (smallT 1 [⟨[121], 1, 0⟩]) 85 small_bad _ _ _ _ 2 1 1 1 U (SB7.out.below hb).gr
  have CK3 : Hid (∀ U, Below W5.heap.size W5 U → Calls Try.prog 27 #[.agg #[.string ⟨#[103]⟩, .slice (some ⟨u5 + 2, 0, none⟩) 2 2, .slice (some ⟨u5 + 4, 0, none⟩) 1 1, .slice (some ⟨u5 + 5, 0, none⟩) 1 1, .slice none 0 0]] U fun e w' => e = .returned (.int .i64 87) ∧ Below U.heap.size U w') := fun U hb => check_of (smallT 0 []) 87 small_open _ _ _ _ 2 1 1 0 U (SE5.out.below hb).grOpen
  have SG : Hid (∀ U, Below W5.heap.size W5 U → Calls Try.prog 8 #[.agg #[.string ⟨#[103]⟩, .slice (some ⟨w.heap.size + 2, 0, none⟩) 2 2, .slice (some ⟨w.heap.size + 4, 0, none⟩) 1 1, .slice (some ⟨w.heap.size + 5, 0, none⟩) 1 1, .slice (some ⟨w.heap.size + 6, 0, none⟩) 1 1], .agg #[.string ⟨#[103]⟩, .slice x1 2 d1, .slice x2 1 d2, .slice x3 1 d3, .slice x4 1 d4]] U fun e w' => e = .returned (.bool true) ∧ Below U.heap.size U w') := fun U hb => by
    have g1 := (S7.out.below hb).gr
    have g2 := G7.out.below hb
    exact sameGraph_any smallG _ _ _ _ x1 x2 x3 x4 2 1 1 1 d1 d2 d3 d4 U g1.A.at g1.E.at g1.I g1.O g2.A.at g2.E.at g2.I g2.O g1.l1 g1.l2 g1.l3 g1.l4 (fun x hx => by have := (small_numsA x hx).2; omega) (fun x hx => by have := (small_numsE x hx).2; omega)
  have p0 : W5.cell? ⟨t1, 0, none⟩ = some (.string ⟨#[103]⟩) := X7.out.cell rfl
  have p1 : W5.cell? ⟨t1, 1, none⟩ = some (.slice (some ⟨w.heap.size + 2, 0, none⟩) 2 2) := X7.out.cell rfl
  have p2 : W5.cell? ⟨t1, 2, none⟩ = some (.slice (some ⟨w.heap.size + 4, 0, none⟩) 1 1) := X7.out.cell rfl
  have p3 : W5.cell? ⟨t1, 3, none⟩ = some (.slice (some ⟨w.heap.size + 5, 0, none⟩) 1 1) := X7.out.cell rfl
  have p4 : W5.cell? ⟨t1, 4, none⟩ = some (.slice (some ⟨w.heap.size + 6, 0, none⟩) 1 1) := X7.out.cell rfl
  have HX : Hid (∀ U, Below W5.heap.size W5 U → (U.cell? ⟨t6, 0, none⟩ = some (.string ⟨#[103]⟩) ∧ U.cell? ⟨t6, 1, none⟩ = some (.slice (some ⟨u4 + 2, 0, none⟩) 2 2) ∧ U.cell? ⟨t6, 2, none⟩ = some (.slice (some ⟨u4 + 4, 0, none⟩) 1 1) ∧ U.cell? ⟨t6, 3, none⟩ = some (.slice (some ⟨u4 + 5, 0, none⟩) 1 1) ∧ U.cell? ⟨t6, 4, none⟩ = some (.slice (some ⟨u4 + 6, 0, none⟩) 1 1))) := fun U hb => by
    have q := XB7.out.below hb
    exact ⟨q.cell rfl, q.cell rfl, q.cell rfl, q.cell rfl, q.cell rfl⟩
  have HY : Hid (∀ U, Below W5.heap.size W5 U → (U.cell? ⟨t7, 0, none⟩ = some (.string ⟨#[103]⟩) ∧ U.cell? ⟨t7, 1, none⟩ = some (.slice (some ⟨u5 + 2, 0, none⟩) 2 2) ∧ U.cell? ⟨t7, 2, none⟩ = some (.slice (some ⟨u5 + 4, 0, none⟩) 1 1) ∧ U.cell? ⟨t7, 3, none⟩ = some (.slice (some ⟨u5 + 5, 0, none⟩) 1 1) ∧ U.cell? ⟨t7, 4, none⟩ = some (.slice none 0 0))) := fun U hb => by
    have q := XC5.out.below hb
    exact ⟨q.cell rfl, q.cell rfl, q.cell rfl, q.cell rfl, q.cell rfl⟩
  go_upto_region 9 with (first
    | (go_at_call 27; (with_reducible refine (CK3.out _ B7.out).mono ?_); rintro e w8 ⟨rfl, b8⟩; have B8 := hiddenG (B7.out.trans (b8.mono B7.out.size)); clear b8 r0 r1 r2 r3 r4)
    | (go_at_call 27; (with_reducible refine (CK2.out _ B6.out).mono ?_); rintro e w7 ⟨rfl, b7⟩; have B7 := hiddenG (B6.out.trans (b7.mono B6.out.size)); obtain ⟨r0, r1, r2, r3, r4⟩ := HY.out _ B7.out; clear b7 q0 q1 q2 q3 q4)
    | (go_at_call 27; (with_reducible refine CK1.out.mono ?_); rintro e w6 ⟨rfl, b6⟩; have B6 := hiddenG b6; obtain ⟨q0, q1, q2, q3, q4⟩ := HX.out _ b6; clear b6 p0 p1 p2 p3 p4))
  have X9 := X7.out.below B8.out
  have H9 := H7.out.below B8.out
  have p0 : w8.cell? ⟨t1, 0, none⟩ = some (.string ⟨#[103]⟩) := X9.cell rfl
  have p1 : w8.cell? ⟨t1, 1, none⟩ = some (.slice (some ⟨w.heap.size + 2, 0, none⟩) 2 2) := X9.cell rfl
  have p2 : w8.cell? ⟨t1, 2, none⟩ = some (.slice (some ⟨w.heap.size + 4, 0, none⟩) 1 1) := X9.cell rfl
  have p3 : w8.cell? ⟨t1, 3, none⟩ = some (.slice (some ⟨w.heap.size + 5, 0, none⟩) 1 1) := X9.cell rfl
  have p4 : w8.cell? ⟨t1, 4, none⟩ = some (.slice (some ⟨w.heap.size + 6, 0, none⟩) 1 1) := X9.cell rfl
  have q0 : w8.cell? ⟨t4, 0, none⟩ = some (.string ⟨#[103]⟩) := H9.cell rfl
  have q1 : w8.cell? ⟨t4, 1, none⟩ = some (.slice x1 2 d1) := H9.cell rfl
  have q2 : w8.cell? ⟨t4, 2, none⟩ = some (.slice x2 1 d2) := H9.cell rfl
  have q3 : w8.cell? ⟨t4, 3, none⟩ = some (.slice x3 1 d3) := H9.cell rfl
  have q4 : w8.cell? ⟨t4, 4, none⟩ = some (.slice x4 1 d4) := H9.cell rfl
  have y1 : w8.cell? ⟨t2, 1, none⟩ = some (.slice ia M.length ic) := (Y7.out.below B8.out).cell rfl
  have z0 : w8.cell? ⟨t4 + 1, 0, none⟩ = some (.int .i64 0) := (F7.out.below B8.out).cell rfl
  have z1 : w8.cell? ⟨t4 + 1, 1, none⟩ = some (.int .i64 0) := (F7.out.below B8.out).cell rfl
  obtain ⟨ig, rfl, it⟩ := (I7.out.below B8.out).cell2 (by have := HML.out; omega)
  rw [HMT.out] at it
  have it' : w8.cell? ⟨ig, 2, none⟩ = some (.string ⟨#[117, 112]⟩) := it
  have hml := HML.out
  rw [hml] at y1
  have SG9 := hiddenG (SG.out w8 B8.out)
  clear X9 H9 it CK1 CK2 CK3 SG HX HY
  go_wp2_with (go_at_call 8; (with_reducible refine SG9.out.mono ?_); rintro e w9 ⟨rfl, b9⟩; have B9 := hiddenG (B8.out.trans (b9.mono B8.out.size)); clear b9)
  go_ret
  exact ⟨rfl, BV7.out.trans (B9.out.mono BV7.out.size)⟩
end Go.Proofs.Ytgflileajamonaa

/- Texts of one chain, laid one behind the other. -/
import Derived.Test.YtlfmmdioondaoaaPartGraphDraws33
import Derived.Test.YtlfmmdioondaoaaPartGraphDraws31
import Derived.Test.YtlfmmdioondaoaaPartGraphDraws32
import Derived.Test.YtlfmmdioondaoaaPartGraphDraws30
namespace Go.Proofs.Ytlfmmdioondaoaa
open Go.ChangeShapes Go.WideShapes Go.ChangeAt Go.RowKit
def dNm (g : GG) : List UInt8 := if (firstF g).code = 0 then g.name else []
def dIt (g : GG) : List Itm := if (firstF g).code = 0 then drawS g else []
theorem drawEnd_one {g : GG} {w w' : World} {e : Ending} (h : DrawEnd g w e w') {n : Nat} (hn : (dIt g).length = n) {nm : List UInt8} (hd : dNm g = nm) {cd : Int} (hc : (firstF g).code = cd) :
    ∃ a c M, e = .returned (.tuple #[.agg #[.string (str nm), .slice a n c], .int .i64 cd]) ∧ M.map Prod.fst = dIt g ∧ M.length = n ∧ Its w.heap.size w' (.slice a n c) M ∧ Below w.heap.size w w' := by
  subst hn hd hc
  unfold DrawEnd at h
  by_cases h0 : (firstF g).code = 0
  · rw [if_pos h0] at h
    obtain ⟨a, c, M, rfl, hm, hi, hb⟩ := h
    have e1 : M.map Prod.fst = dIt g := by rw [hm]; unfold dIt; rw [if_pos h0]
    have e2 : M.length = (dIt g).length := by rw [← e1, List.length_map]
    exact ⟨a, c, M, by rw [h0, ← e2]; unfold dNm; rw [if_pos h0], e1, e2, by rw [← e2]; exact hi, hb⟩
  · rw [if_neg h0] at h
    obtain ⟨rfl, hb⟩ := h
    have e1 : dIt g = [] := by unfold dIt; rw [if_neg h0]
    have e2 : dNm g = [] := by unfold dNm; rw [if_neg h0]
    exact ⟨none, 0, [], by rw [e1, e2]; rfl, by rw [e1]; rfl, by rw [e1]; rfl, by rw [e1]; exact its_nil _ _, hb⟩
theorem dIt_len (g : GG) : (dIt g).length ≤ 160 := by
  unfold dIt
  by_cases h0 : (firstF g).code = 0
  · rw [if_pos h0]
    have := head_ok ((sound_iff g).1 h0).head
    unfold drawS
    simp only [List.length_append, List.length_map]
    omega
  · rw [if_neg h0]; simp
theorem dIt_kind (g : GG) : ∀ x ∈ dIt g, 0 ≤ x.kind ∧ x.kind ≤ 4 := by
  unfold dIt
  by_cases h0 : (firstF g).code = 0
  · rw [if_pos h0]
    unfold drawS
    intro x hx
    simp only [List.mem_append, List.mem_map] at hx
    rcases hx with ⟨y, -, rfl⟩ | ⟨y, -, rfl⟩ | ⟨y, -, rfl⟩ | ⟨y, -, rfl⟩
    · exact ⟨(by decide : (0 : Int) ≤ 1), (by decide : (1 : Int) ≤ 4)⟩
    · exact ⟨(by decide : (0 : Int) ≤ 2), (by decide : (2 : Int) ≤ 4)⟩
    · exact ⟨(by decide : (0 : Int) ≤ 3), (by decide : (3 : Int) ≤ 4)⟩
    · exact ⟨(by decide : (0 : Int) ≤ 4), (by decide : (4 : Int) ≤ 4)⟩
  · rw [if_neg h0]; intro x hx; cases hx
theorem dIt_nums {g : GG} (h : Light g) : ∀ x ∈ dIt g, x.nums.length ≤ 1048576 := by
  unfold dIt
  by_cases h0 : (firstF g).code = 0
  · rw [if_pos h0]
    unfold drawS
    intro x hx
    simp only [List.mem_append, List.mem_map] at hx
    rcases hx with ⟨y, hy, rfl⟩ | ⟨y, hy, rfl⟩ | ⟨y, -, rfl⟩ | ⟨y, -, rfl⟩
    · exact h.pa y hy
    · exact h.pe y hy
    · exact Nat.zero_le _
    · exact Nat.zero_le _
  · rw [if_neg h0]; intro x hx; cases hx
theorem of_map {g : GG} {M : List El} {P : Itm → Prop} (h : M.map Prod.fst = dIt g) (hp : ∀ x ∈ dIt g, P x) : ∀ p ∈ M, P p.1 := fun p hm => hp _ (by rw [← h]; exact List.mem_map_of_mem hm)
theorem rws_two {B B2 : Nat} {w : World} {v1 v2 : Value} {L M : List El} (h1 : Its B w v1 L) (h2 : Its B2 w v2 M) (hb : B ≤ B2) (hlt : ∀ p ∈ L, ∀ k, p.2.ownBlock = some k → k < B2) (hs : ∀ p ∈ L ++ M, p.1.nums.length ≤ 17592186043904) : Rws B w (L ++ M) := by
  refine ⟨fun p hp => ?_, ?_, hs⟩
  · rcases List.mem_append.1 hp with hp | hp
    · exact h1.nums p hp
    · exact (h2.nums p hp).mono hb
  · rw [List.pairwise_append]
    exact ⟨h1.pair, h2.pair, fun p hp q hq k e e2 => by have := hlt p hp k e; have := own_row (h2.nums q hq) k e2; omega⟩
theorem apart_two (B n : Nat) (u : Value) (W0 wr : World) (L : List El) (hL : L.length = n) (hn : n ≤ 1000) (HALL : wr.ownsRow W0.heap.size 46 1 u n (L.map Prod.snd)) (hbw : Below W0.heap.size W0 wr) (RW : Rws B W0 L) (hB : B ≤ W0.heap.size) :
    Calls Try.prog 21 #[u] wr fun e w' => e = .returned (.bool true) ∧ Below B W0 w' ∧ ∀ k, k < W0.heap.size → (∀ p ∈ L, p.2.ownBlock ≠ some k) → w'.heap[k]? = W0.heap[k]? := by
  have hs := hbw.size
  have RW2 : Rws B wr L := ⟨fun p hp => (RW.nums p hp).below hbw, RW.pair, RW.short⟩
  rcases HALL.2 with ⟨e1, e0⟩ | ⟨G, cap, cur, e1, hG, hh, -⟩
  · rw [e1]
    exact (apart_nil wr).mono fun _ _ ⟨h1, h2⟩ => ⟨h1, (hbw.mono hB).trans (h2.mono (by omega)), fun k hk _ => (h2.block k (by omega)).trans (hbw.block k hk)⟩
  · have hGl : G < wr.heap.size := (Array.getElem?_eq_some_iff.1 hh).1
    have hT := table_of (G := G) RW2 (fun j hj => by
      have h1 := World.ownsRow.cells HALL (g := G) (by rw [e1]; rfl) j ((L.map Prod.snd)[j]'(by simpa using hj)) (List.getElem?_eq_getElem (by simpa using hj))
      rw [add_zero5] at h1
      rw [h1, nthI_get hj, List.getElem_map]) (fun p hp e => by
      have := own_lt (RW.nums p hp) G e
      omega) hGl (by omega) (by rw [hL]; omega)
    rw [hL] at hT
    rw [e1]
    refine (apart_keeps B G n cap _ _ _ _ wr hT).mono fun _ w' ⟨h1, h2, h3⟩ => ⟨h1, (hbw.mono hB).trans h2, fun k hk hne => (h3 k (by omega) fun j x hj hx e => ?_).trans (hbw.block k hk)⟩
    have hj' : j < L.length := by rw [hL]; exact hj
    exact hne _ (nthI_mem hj') (by rw [(RW.nums _ (nthI_mem hj')).own hx, e])
theorem lentG_below {B : Nat} {w w' : World} {x1 x2 x3 x4 : Option Addr} {c1 c2 c3 c4 : Nat} {g : GG} (h : LentG B w x1 x2 x3 x4 c1 c2 c3 c4 g) (hb : Below w.heap.size w w') : LentG B w' x1 x2 x3 x4 c1 c2 c3 c4 g := h.keep fun k _ hk => hb.block k hk
/-- What stays when a row of items is written over and grows. -/
theorem GrwI.blkA {B w wr g c ys T q cs} (h : GrwI B w wr g c ys) (hb : BlkA T q w cs) (hq : g ≠ some q) : BlkA T q wr cs := (h.keep q hb.lt hq).trans hb
theorem GrwI.at {B w wr g n cap ys b} (h : GrwI B w wr b (.slice (some ⟨g, 0, none⟩) n cap) ys) (k : Nat) (hk : k < ys.length) : Cell11 wr g (k * 11) (nthI ys k) := h.own.cellsAt k hk
theorem Its.keepR {B w w' v L} (h : Its B w v L) (hk : ∀ k, v.ownBlock = some k → w'.heap[k]? = w.heap[k]?) : Rw11 B w' v L := by
  refine ⟨h.row.1, ?_⟩
  rcases h.row.2 with h2 | ⟨g, cap, cur, hv, hg, hh, r⟩
  · exact .inl h2
  · exact .inr ⟨g, cap, cur, hv, hg, by rw [hk g (by rw [hv]; rfl)]; exact hh, r⟩
set_option maxRecDepth 100000 in
set_option maxHeartbeats 16000000 in
theorem graphDraws_walk (g : GG) (a1 a2 a3 a4 : Option Addr) (c1 c2 c3 c4 : Nat) (w : World) (h : ArgG w a1 a2 a3 a4 c3 c4 g) :
    Calls Try.prog 4 #[.agg #[.string (str g.name), .slice a1 g.actors.length c1, .slice a2 g.edges.length c2, .slice a3 g.ins.length c3, .slice a4 g.outs.length c4]] w fun e w' => e = .returned (.bool true) ∧ Below w.heap.size w w' := by
  have ba := (Below.refl w.heap.size w).alloc (Nat.le_refl _) (.cells #[.string (str g.name), .slice a1 g.actors.length c1, .slice a2 g.edges.length c2, .slice a3 g.ins.length c3, .slice a4 g.outs.length c4] 31)
  have BA := hiddenG ba
  have X0 := hiddenG (blkA_new 31 w #[.string (str g.name), .slice a1 g.actors.length c1, .slice a2 g.edges.length c2, .slice a3 g.ins.length c3, .slice a4 g.outs.length c4])
  have HA := hiddenG h
  have HN := hiddenG h.gr.nums
  have HV := hiddenG (heavyGraph_any g a1 a2 a3 a4 c1 c2 c3 c4 _ (h.gr.below ba))
  have AW : Hid (∀ U, Calls Try.prog 14 #[] U fun e w' => e = .returned (.bool true) ∧ Below U.heap.size U w') := fun U => awake8 U
  have LG : Hid (Light g → ∀ U, Below w.heap.size w U → Calls Try.prog 17 #[.agg #[.string (str g.name), .slice a1 g.actors.length c1, .slice a2 g.edges.length c2, .slice a3 g.ins.length c3, .slice a4 g.outs.length c4]] U (LentGE g U)) := fun hL U hb => lentGraph_any g a1 a2 a3 a4 c1 c2 c3 c4 U (HA.out.below hb) hL
  have y0 : (w.alloc (.cells #[.string (str g.name), .slice a1 g.actors.length c1, .slice a2 g.edges.length c2, .slice a3 g.ins.length c3, .slice a4 g.outs.length c4] 31)).cell? ⟨w.heap.size, 0, none⟩ = some (.string (str g.name)) := (X0.out).cell rfl
  have y1 : (w.alloc (.cells #[.string (str g.name), .slice a1 g.actors.length c1, .slice a2 g.edges.length c2, .slice a3 g.ins.length c3, .slice a4 g.outs.length c4] 31)).cell? ⟨w.heap.size, 1, none⟩ = some (.slice a1 g.actors.length c1) := (X0.out).cell rfl
  have y2 : (w.alloc (.cells #[.string (str g.name), .slice a1 g.actors.length c1, .slice a2 g.edges.length c2, .slice a3 g.ins.length c3, .slice a4 g.outs.length c4] 31)).cell? ⟨w.heap.size, 2, none⟩ = some (.slice a2 g.edges.length c2) := (X0.out).cell rfl
  have y3 : (w.alloc (.cells #[.string (str g.name), .slice a1 g.actors.length c1, .slice a2 g.edges.length c2, .slice a3 g.ins.length c3, .slice a4 g.outs.length c4] 31)).cell? ⟨w.heap.size, 3, none⟩ = some (.slice a3 g.ins.length c3) := (X0.out).cell rfl
  have y4 : (w.alloc (.cells #[.string (str g.name), .slice a1 g.actors.length c1, .slice a2 g.edges.length c2, .slice a3 g.ins.length c3, .slice a4 g.outs.length c4] 31)).cell? ⟨w.heap.size, 4, none⟩ = some (.slice a4 g.outs.length c4) := (X0.out).cell rfl
  clear ba h
  go_enter Try.func4, Try.ntmps4
  go_upto_region 1 with fail
  generalize w.alloc (.cells #[.string (str g.name), .slice a1 g.actors.length c1, .slice a2 g.edges.length c2, .slice a3 g.ins.length c3, .slice a4 g.outs.length c4] 31) = W0 at *
  go_wp2_with (go_at_call 16; (with_reducible refine HV.out.mono ?_); rintro e w1 ⟨hv, rfl, hL, b1⟩; have B1 := hiddenG (BA.out.trans (b1.mono BA.out.size)); have HLI := hiddenG hL; have X1 := hiddenG (X0.out.below b1); clear hL b1 y0 y1 y2 y3 y4; have y0 : w1.cell? ⟨w.heap.size, 0, none⟩ = some (.string (str g.name)) := X1.out.cell rfl; have y1 : w1.cell? ⟨w.heap.size, 1, none⟩ = some (.slice a1 g.actors.length c1) := X1.out.cell rfl; have y2 : w1.cell? ⟨w.heap.size, 2, none⟩ = some (.slice a2 g.edges.length c2) := X1.out.cell rfl; have y3 : w1.cell? ⟨w.heap.size, 3, none⟩ = some (.slice a3 g.ins.length c3) := X1.out.cell rfl; have y4 : w1.cell? ⟨w.heap.size, 4, none⟩ = some (.slice a4 g.outs.length c4) := X1.out.cell rfl)
  · go_wp2
    go_ret
    exact ⟨by first | rfl | simp, B1.out⟩
  · have HL := hiddenG (HLI.out (by assumption))
    clear HLI X0 BA HV
    have LG1 := hiddenG (LG.out HL.out w1 B1.out)
    go_upto_region 4 with (go_at_call 17; (with_reducible refine LG1.out.mono ?_); rintro e w2 ⟨x1, x2, x3, x4, d1, d2, d3, d4, rfl, hl, b2⟩; have L2 := hiddenG hl; have B2 := hiddenG (B1.out.trans (b2.mono B1.out.size)); have X2 := hiddenG (X1.out.below b2); clear hl b2 y0 y1 y2 y3 y4)
    have bv := (Below.refl w2.heap.size w2).alloc (Nat.le_refl _) (.cells #[.string (str g.name), .slice x1 g.actors.length d1, .slice x2 g.edges.length d2, .slice x3 g.ins.length d3, .slice x4 g.outs.length d4] 31)
    have Y3 := hiddenG (blkA_new 31 w2 #[.string (str g.name), .slice x1 g.actors.length d1, .slice x2 g.edges.length d2, .slice x3 g.ins.length d3, .slice x4 g.outs.length d4])
    have B3 := hiddenG (B2.out.trans (bv.mono B2.out.size))
    have X3 := hiddenG (X2.out.below bv)
    have L3 := hiddenG (lentG_below L2.out bv)
    clear bv L2 B2 X2 X1 B1 LG LG1
    generalize hb7 : w2.heap.size = t6 at *
    generalize w2.alloc (.cells #[.string (str g.name), .slice x1 g.actors.length d1, .slice x2 g.edges.length d2, .slice x3 g.ins.length d3, .slice x4 g.outs.length d4] 31) = V at *
    clear hb7
    obtain ⟨cd, hcd⟩ : ∃ q, (firstF g).code = q := ⟨_, rfl⟩
    obtain ⟨nm, hnm⟩ : ∃ q, dNm g = q := ⟨_, rfl⟩
    obtain ⟨n, hn⟩ : ∃ q, (dIt g).length = q := ⟨_, rfl⟩
    have hnl : n ≤ 160 := by rw [← hn]; exact dIt_len g
    have HK := hiddenG (dIt_kind g)
    have HS := hiddenG (dIt_nums HL.out)
    have DP : Hid (∀ U, Below V.heap.size V U → Calls Try.prog 18 #[.agg #[.string (str g.name), .slice x1 g.actors.length d1, .slice x2 g.edges.length d2, .slice x3 g.ins.length d3, .slice x4 g.outs.length d4]] U fun e w' => ∃ a c M, e = .returned (.tuple #[.agg #[.string (str nm), .slice a n c], .int .i64 cd]) ∧ M.map Prod.fst = dIt g ∧ M.length = n ∧ Its U.heap.size w' (.slice a n c) M ∧ Below U.heap.size U w') := fun U hb => (draw_any g x1 x2 x3 x4 d1 d2 d3 d4 U ((lentG_below L3.out hb).gr HN.out HL.out)).mono fun _ _ hh => drawEnd_one hh hn hnm hcd
    have DD : Hid (∀ U, Below V.heap.size V U → Calls Try.prog 19 #[.agg #[.string (str g.name), .slice a1 g.actors.length c1, .slice a2 g.edges.length c2, .slice a3 g.ins.length c3, .slice a4 g.outs.length c4]] U fun e w' => ∃ a c M, e = .returned (.tuple #[.agg #[.string (str nm), .slice a n c], .int .i64 cd]) ∧ M.map Prod.fst = dIt g ∧ M.length = n ∧ Its U.heap.size w' (.slice a n c) M ∧ Below U.heap.size U w') := fun U hb => (rdraw_any g a1 a2 a3 a4 c1 c2 c3 c4 U (HA.out.gr.below (B3.out.trans (hb.mono B3.out.size)))).mono fun _ _ hh => drawEnd_one hh hn hnm hcd
    have KG : Hid (∀ U, Below V.heap.size V U → Calls Try.prog 22 #[.agg #[.string (str g.name), .slice x1 g.actors.length d1, .slice x2 g.edges.length d2, .slice x3 g.ins.length d3, .slice x4 g.outs.length d4], .agg #[.string (str g.name), .slice a1 g.actors.length c1, .slice a2 g.edges.length c2, .slice a3 g.ins.length c3, .slice a4 g.outs.length c4]] U fun e w' => e = .returned (.bool true) ∧ Below U.heap.size U w') := fun U hb => keptGraph_any g x1 x2 x3 x4 a1 a2 a3 a4 d1 d2 d3 d4 c1 c2 c3 c4 _ U (lentG_below L3.out hb) (HA.out.gr.below (B3.out.trans (hb.mono B3.out.size))) HL.out
    clear hcd hnm hn L3 HL HN HA
    have BV0 := hiddenG (Below.refl V.heap.size V)
    have y0 : V.cell? ⟨t6, 0, none⟩ = some (.string (str g.name)) := (Y3.out.below BV0.out).cell rfl
    have y1 : V.cell? ⟨t6, 1, none⟩ = some (.slice x1 g.actors.length d1) := (Y3.out.below BV0.out).cell rfl
    have y2 : V.cell? ⟨t6, 2, none⟩ = some (.slice x2 g.edges.length d2) := (Y3.out.below BV0.out).cell rfl
    have y3 : V.cell? ⟨t6, 3, none⟩ = some (.slice x3 g.ins.length d3) := (Y3.out.below BV0.out).cell rfl
    have y4 : V.cell? ⟨t6, 4, none⟩ = some (.slice x4 g.outs.length d4) := (Y3.out.below BV0.out).cell rfl
    go_upto_region 5 with (go_at_call 18; (with_reducible refine (DP.out V BV0.out).mono ?_); rintro e u1 ⟨s1, k1, M1, rfl, hm, hl, hi, hb⟩; have EM1 := hiddenG hm; have EL1 := hl; have I1 := hiddenG hi; have bb1 := hb; clear hm hi hb hl y0 y1 y2 y3 y4)
    have bv := (Below.refl u1.heap.size u1).alloc (Nat.le_refl _) (.cells #[.string (str nm), .slice s1 n k1] 24)
    have S1 := hiddenG (blkA_new 24 u1 #[.string (str nm), .slice s1 n k1])
    have J1 := hiddenG (I1.out.below bv)
    have PL1 : Hid ((∀ p ∈ M1, ∀ k, p.2.ownBlock = some k → k < u1.heap.size) ∧ (∀ k, (Value.slice s1 n k1).ownBlock = some k → k < u1.heap.size)) := ⟨fun p hp k e => own_lt (I1.out.nums p hp) k e, fun k e => own_lt I1.out.row k e⟩
    have bt := bb1.trans (bv.mono bb1.size)
    have V1 := hiddenG (BV0.out.trans (bt.mono BV0.out.size))
    have z1 : Hid (V.heap.size ≤ u1.heap.size ∧ u1.heap.size < (u1.alloc (.cells #[.string (str nm), .slice s1 n k1] 24)).heap.size) := ⟨bb1.size, by simp⟩
    clear bv bt bb1 I1
    generalize hq1 : u1.heap.size = q1 at *
    generalize u1.alloc (.cells #[.string (str nm), .slice s1 n k1] 24) = w4 at *
    clear hq1
    have y0 : w4.cell? ⟨t6, 0, none⟩ = some (.string (str g.name)) := (Y3.out.below V1.out).cell rfl
    have y1 : w4.cell? ⟨t6, 1, none⟩ = some (.slice x1 g.actors.length d1) := (Y3.out.below V1.out).cell rfl
    have y2 : w4.cell? ⟨t6, 2, none⟩ = some (.slice x2 g.edges.length d2) := (Y3.out.below V1.out).cell rfl
    have y3 : w4.cell? ⟨t6, 3, none⟩ = some (.slice x3 g.ins.length d3) := (Y3.out.below V1.out).cell rfl
    have y4 : w4.cell? ⟨t6, 4, none⟩ = some (.slice x4 g.outs.length d4) := (Y3.out.below V1.out).cell rfl
    go_upto_region 6 with (go_at_call 18; (with_reducible refine (DP.out w4 V1.out).mono ?_); rintro e u2 ⟨s2, k2, M2, rfl, hm, hl, hi, hb⟩; have EM2 := hiddenG hm; have EL2 := hl; have I2 := hiddenG hi; have bb2 := hb; clear hm hi hb hl y0 y1 y2 y3 y4)
    have bv := (Below.refl u2.heap.size u2).alloc (Nat.le_refl _) (.cells #[.string (str nm), .slice s2 n k2] 24)
    have S2 := hiddenG (blkA_new 24 u2 #[.string (str nm), .slice s2 n k2])
    have J2 := hiddenG (I2.out.below bv)
    have PL2 : Hid ((∀ p ∈ M2, ∀ k, p.2.ownBlock = some k → k < u2.heap.size) ∧ (∀ k, (Value.slice s2 n k2).ownBlock = some k → k < u2.heap.size)) := ⟨fun p hp k e => own_lt (I2.out.nums p hp) k e, fun k e => own_lt I2.out.row k e⟩
    have bt := bb2.trans (bv.mono bb2.size)
    have V2 := hiddenG (V1.out.trans (bt.mono V1.out.size))
    have S1 := hiddenG (S1.out.below bt)
    have J1 := hiddenG (J1.out.below bt)
    have z2 : Hid (w4.heap.size ≤ u2.heap.size ∧ u2.heap.size < (u2.alloc (.cells #[.string (str nm), .slice s2 n k2] 24)).heap.size) := ⟨bb2.size, by simp⟩
    clear bv bt bb2 I2
    generalize hq2 : u2.heap.size = q2 at *
    generalize u2.alloc (.cells #[.string (str nm), .slice s2 n k2] 24) = w6 at *
    clear hq2
    have y0 : w6.cell? ⟨w.heap.size, 0, none⟩ = some (.string (str g.name)) := (X3.out.below V2.out).cell rfl
    have y1 : w6.cell? ⟨w.heap.size, 1, none⟩ = some (.slice a1 g.actors.length c1) := (X3.out.below V2.out).cell rfl
    have y2 : w6.cell? ⟨w.heap.size, 2, none⟩ = some (.slice a2 g.edges.length c2) := (X3.out.below V2.out).cell rfl
    have y3 : w6.cell? ⟨w.heap.size, 3, none⟩ = some (.slice a3 g.ins.length c3) := (X3.out.below V2.out).cell rfl
    have y4 : w6.cell? ⟨w.heap.size, 4, none⟩ = some (.slice a4 g.outs.length c4) := (X3.out.below V2.out).cell rfl
    go_upto_region 7 with (go_at_call 19; (with_reducible refine (DD.out w6 V2.out).mono ?_); rintro e u3 ⟨s3, k3, M3, rfl, hm, hl, hi, hb⟩; have EM3 := hiddenG hm; have EL3 := hl; have I3 := hiddenG hi; have bb3 := hb; clear hm hi hb hl y0 y1 y2 y3 y4)
    have bv := (Below.refl u3.heap.size u3).alloc (Nat.le_refl _) (.cells #[.string (str nm), .slice s3 n k3] 24)
    have S3 := hiddenG (blkA_new 24 u3 #[.string (str nm), .slice s3 n k3])
    have J3 := hiddenG (I3.out.below bv)
    have PL3 : Hid ((∀ p ∈ M3, ∀ k, p.2.ownBlock = some k → k < u3.heap.size) ∧ (∀ k, (Value.slice s3 n k3).ownBlock = some k → k < u3.heap.size)) := ⟨fun p hp k e => own_lt (I3.out.nums p hp) k e, fun k e => own_lt I3.out.row k e⟩
    have bt := bb3.trans (bv.mono bb3.size)
    have V3 := hiddenG (V2.out.trans (bt.mono V2.out.size))
    have S1 := hiddenG (S1.out.below bt)
    have J1 := hiddenG (J1.out.below bt)
    have S2 := hiddenG (S2.out.below bt)
    have J2 := hiddenG (J2.out.below bt)
    have z3 : Hid (w6.heap.size ≤ u3.heap.size ∧ u3.heap.size < (u3.alloc (.cells #[.string (str nm), .slice s3 n k3] 24)).heap.size) := ⟨bb3.size, by simp⟩
    clear bv bt bb3 I3
    generalize hq3 : u3.heap.size = q3 at *
    generalize u3.alloc (.cells #[.string (str nm), .slice s3 n k3] 24) = w8 at *
    clear hq3
    clear DP DD
    have ne1 : (cd != cd) = false := by simp
    have ne2 : (cd == cd) = true := by simp
    have SA : Hid (∀ U, Below w8.heap.size w8 U → Calls Try.prog 20 #[.agg #[.string (str nm), .slice s1 n k1], .agg #[.string (str nm), .slice s3 n k3]] U fun e w' => e = .returned (.bool true) ∧ Below U.heap.size U w') := fun U hb => rSame_any nm s1 s3 n k1 k3 M1 M3 U EL1 EL3 (EM1.out.trans EM3.out.symm) (Its.at5 (c := k1) (by rw [EL1]; exact J1.out.below hb)) (Its.at5 (c := k3) (by rw [EL3]; exact J3.out.below hb)) (by omega) (fun p hp => by have := of_map EM3.out HS.out p hp; omega)
    have SB : Hid (∀ U, Below w8.heap.size w8 U → Calls Try.prog 20 #[.agg #[.string (str nm), .slice s2 n k2], .agg #[.string (str nm), .slice s3 n k3]] U fun e w' => e = .returned (.bool true) ∧ Below U.heap.size U w') := fun U hb => rSame_any nm s2 s3 n k2 k3 M2 M3 U EL2 EL3 (EM2.out.trans EM3.out.symm) (Its.at5 (c := k2) (by rw [EL2]; exact J2.out.below hb)) (Its.at5 (c := k3) (by rw [EL3]; exact J3.out.below hb)) (by omega) (fun p hp => by have := of_map EM3.out HS.out p hp; omega)
    have e0 : w8.cell? ⟨q1, 0, none⟩ = some (.string (str nm)) := S1.out.cell rfl
    have e1 : w8.cell? ⟨q1, 1, none⟩ = some (.slice s1 n k1) := S1.out.cell rfl
    have f0 : w8.cell? ⟨q3, 0, none⟩ = some (.string (str nm)) := S3.out.cell rfl
    have f1 : w8.cell? ⟨q3, 1, none⟩ = some (.slice s3 n k3) := S3.out.cell rfl
    go_upto_region 9 with (first | (go_at_call 20; (with_reducible refine (SA.out w8 (Below.refl _ _)).mono ?_); rintro e w9 ⟨rfl, b9⟩; have N9 := hiddenG b9; clear b9 e0 e1 f0 f1; have e0 : w9.cell? ⟨q2, 0, none⟩ = some (.string (str nm)) := (S2.out.below N9.out).cell rfl; have e1 : w9.cell? ⟨q2, 1, none⟩ = some (.slice s2 n k2) := (S2.out.below N9.out).cell rfl; have f0 : w9.cell? ⟨q3, 0, none⟩ = some (.string (str nm)) := (S3.out.below N9.out).cell rfl; have f1 : w9.cell? ⟨q3, 1, none⟩ = some (.slice s3 n k3) := (S3.out.below N9.out).cell rfl) | (go_at_call 20; (with_reducible refine (SB.out _ N9.out).mono ?_); rintro e w10 ⟨rfl, b10⟩; have N10 := hiddenG (N9.out.trans (b10.mono N9.out.size)); clear b10 e0 e1 f0 f1))
    clear SA SB
    have S1 := hiddenG (S1.out.below N10.out)
    have S2 := hiddenG (S2.out.below N10.out)
    have J1 := hiddenG (J1.out.below N10.out)
    have J2 := hiddenG (J2.out.below N10.out)
    have V3 := hiddenG (V3.out.trans (N10.out.mono V3.out.size))
    have z4 := hiddenG N10.out.size
    clear N9 N10 S3 J3 EM3 PL3 ne1 ne2
    have HR : Hid (∀ p ∈ M1 ++ M2, p.1.nums.length ≤ 17592186043904) := fun p hp => by
      rcases List.mem_append.1 hp with hp | hp
      · have := of_map EM1.out HS.out p hp; omega
      · have := of_map EM2.out HS.out p hp; omega
    have HNil : Hid (w10.ownsRow w10.heap.size 46 1 (.slice none 0 0) 0 (((M1 ++ M2).map Prod.snd).take 0)) := World.ownsRow_nil _ _ _ _
    obtain ⟨i0, hi, hz0, hz1, hz2⟩ := info_parts Try.info46
    have HI := hiddenG hi
    have HI0 := hiddenG hz0
    have HI1 := hiddenG hz1
    have HI2 := hiddenG hz2
    clear hi hz0 hz1 hz2
    have hI : (n : Int) ≤ 160 := by omega
    have hI0 : (0 : Int) ≤ (n : Int) := by omega
    go_wp2
    go_loopg [10, 11] n (fun gk r v wr => ∃ (k : Nat), k ≤ n ∧ gk = n - k ∧ v = .int .i64 (k : Int) ∧ wr.ownsRow w10.heap.size 46 1 r (k) (((M1 ++ M2).map Prod.snd).take (k)) ∧ Below w10.heap.size w10 wr)
    case atStart => exact ⟨0, Nat.zero_le _, rfl, rfl, HNil.out, Below.refl _ _⟩
    case round =>
      obtain ⟨k, hk, rfl, rfl, hrow, hbw⟩ := hrel
      have HROW := hiddenG hrow
      have HBW := hiddenG hbw
      have k1' := (S1.out.below hbw).cell (k := 1) rfl
      clear hrow hbw
      by_cases hlt : k < n
      · have hki : (k : Int) < (n : Int) := by omega
        obtain ⟨g9, cap, he, hc⟩ := (show Rw11 _ wr (.slice s1 n k1) M1 from owns_below (J1.out.row) HBW.out).cells11 (by intro e; rw [e] at EL1; simp at EL1; omega)
        have he2 : s1 = some ⟨g9, 0, none⟩ := by injection he
        subst he2
        clear he
        have e3 := (hc k (by omega)).c3
        have HIN := hiddenG (J1.out.nums _ (nthI_mem (show k < M1.length by omega)))
        have hnx : ((M1 ++ M2).map Prod.snd).take (k + 1) = ((M1 ++ M2).map Prod.snd).take (k) ++ [(nthI M1 k).2] := by
          rw [List.take_add_one, List.getElem?_map, List.getElem?_append_left (by omega), List.getElem?_eq_getElem (show k < M1.length by omega), nthI_get (show k < M1.length by omega)]
          rfl
        have HNX := hiddenG hnx
        obtain ⟨ra, rc, hra⟩ := HIN.out.shape
        have HRA := hiddenG hra
        rw [hra] at e3
        have ONE : ∀ u ∈ [(Value.slice ra (nthI M1 k).1.nums.length rc)], u.oneCell' = true := fun u hu => by simp only [List.mem_cons, List.not_mem_nil, or_false] at hu; subst hu; rfl
        clear hnx hc hra
        generalize (nthI M1 k).1.nums.length = rl at *
        go_wp2_with (at_builtin; refine wpList_append_own _ rfl (.tmp 63) (.tmp 70) 44 rfl w10.heap.size 46 i0 (.slice none 0 0) 1 24 Try.underlying44 HI.out HI0.out HI1.out HI2.out rfl (by decide) _ (k) _ rfl (owns_below HROW.out ((Below.refl _ _).alloc (Nat.le_refl _) _)) ⟨wr.heap.size, 0, none⟩ 1 1 [.slice ra rl rc] rfl rfl (val_new wr _ _) ONE (by unfold maxLen; omega) (by omega) (by have := HBW.out.size; simp; omega) ?_; intro r8 v8 hown hgrow _; have O8 := hiddenG hown; have B8 : Hid (Below w10.heap.size w10 v8) := below_grownO (HBW.out.trans (((Below.refl _ _).alloc (Nat.le_refl _) _).mono HBW.out.size)) hgrow (own_row HROW.out) (by have := HBW.out.size; simp; omega); clear hown hgrow)
        go_roundg (n - (k + 1))
        case measure => omega
        case rel => exact ⟨k + 1, by omega, rfl, by go_num, by have h1 := O8.out; have h2 := HNX.out; rw [HRA.out] at h2; rw [h2]; exact h1, B8.out⟩
      · have ek : n = k := by omega
        have hki : ¬ ((k : Int) < (n : Int)) := by omega
        have HROW : Hid (wr.ownsRow w10.heap.size 46 1 u10 (n) (((M1 ++ M2).map Prod.snd).take (n))) := by have h1 := HROW.out; rw [← ek] at h1; exact h1
        clear ek
        go_wp2
        have HT : Hid (wr.ownsRow w10.heap.size 46 1 u10 (n + 0) (((M1 ++ M2).map Prod.snd).take (n + 0))) := HROW.out
        have HTB := hiddenG HBW.out
        clear HROW HBW k1' HNil hki hlt hk
        go_loopg [10, 12] n (fun gk r v wr => ∃ (k : Nat), k ≤ n ∧ gk = n - k ∧ v = .int .i64 (k : Int) ∧ wr.ownsRow w10.heap.size 46 1 r (n + k) (((M1 ++ M2).map Prod.snd).take (n + k)) ∧ Below w10.heap.size w10 wr)
        case atStart => exact ⟨0, Nat.zero_le _, rfl, rfl, HT.out, HTB.out⟩
        case round =>
          obtain ⟨k, hk, rfl, rfl, hrow, hbw⟩ := hrel
          have HROW := hiddenG hrow
          have HBW := hiddenG hbw
          have k1' := (S2.out.below hbw).cell (k := 1) rfl
          clear hrow hbw
          by_cases hlt : k < n
          · have hki : (k : Int) < (n : Int) := by omega
            obtain ⟨g9, cap, he, hc⟩ := (show Rw11 _ wr (.slice s2 n k2) M2 from owns_below (J2.out.row) HBW.out).cells11 (by intro e; rw [e] at EL2; simp at EL2; omega)
            have he2 : s2 = some ⟨g9, 0, none⟩ := by injection he
            subst he2
            clear he
            have e3 := (hc k (by omega)).c3
            have HIN := hiddenG (J2.out.nums _ (nthI_mem (show k < M2.length by omega)))
            have hnx : ((M1 ++ M2).map Prod.snd).take (n + k + 1) = ((M1 ++ M2).map Prod.snd).take (n + k) ++ [(nthI M2 k).2] := by
              rw [List.take_add_one, List.getElem?_map, List.getElem?_append_right (by omega), show n + k - M1.length = k by omega, List.getElem?_eq_getElem (show k < M2.length by omega), nthI_get (show k < M2.length by omega)]
              rfl
            have HNX := hiddenG hnx
            obtain ⟨ra, rc, hra⟩ := HIN.out.shape
            have HRA := hiddenG hra
            rw [hra] at e3
            have ONE : ∀ u ∈ [(Value.slice ra (nthI M2 k).1.nums.length rc)], u.oneCell' = true := fun u hu => by simp only [List.mem_cons, List.not_mem_nil, or_false] at hu; subst hu; rfl
            clear hnx hc hra
            generalize (nthI M2 k).1.nums.length = rl at *
            go_wp2_with (at_builtin; refine wpList_append_own _ rfl (.tmp 79) (.tmp 86) 44 rfl w10.heap.size 46 i0 (.slice none 0 0) 1 24 Try.underlying44 HI.out HI0.out HI1.out HI2.out rfl (by decide) _ (n + k) _ rfl (owns_below HROW.out ((Below.refl _ _).alloc (Nat.le_refl _) _)) ⟨wr.heap.size, 0, none⟩ 1 1 [.slice ra rl rc] rfl rfl (val_new wr _ _) ONE (by unfold maxLen; omega) (by omega) (by have := HBW.out.size; simp; omega) ?_; intro r8 v8 hown hgrow _; have O8 := hiddenG hown; have B8 : Hid (Below w10.heap.size w10 v8) := below_grownO (HBW.out.trans (((Below.refl _ _).alloc (Nat.le_refl _) _).mono HBW.out.size)) hgrow (own_row HROW.out) (by have := HBW.out.size; simp; omega); clear hown hgrow)
            go_roundg (n - (k + 1))
            case measure => omega
            case rel => exact ⟨k + 1, by omega, rfl, by go_num, by have h1 := O8.out; have h2 := HNX.out; rw [HRA.out] at h2; rw [show n + (k + 1) = n + k + 1 by omega, h2]; exact h1, B8.out⟩
          · have ek : n = k := by omega
            have hki : ¬ ((k : Int) < (n : Int)) := by omega
            have HROW : Hid (wr.ownsRow w10.heap.size 46 1 u10 (n + n) (((M1 ++ M2).map Prod.snd).take (n + n))) := by have h1 := HROW.out; rw [← ek] at h1; exact h1
            clear ek
            have HALL : Hid (wr.ownsRow w10.heap.size 46 1 u10 (n + n) ((M1 ++ M2).map Prod.snd)) := by
              have h1 := HROW.out
              have e : ((M1 ++ M2).map Prod.snd).take (n + n) = (M1 ++ M2).map Prod.snd := List.take_of_length_le (by simp; omega)
              rw [e] at h1
              exact h1
            have HAPT : Hid (Calls Try.prog 21 #[u10] wr fun e w' => e = .returned (.bool true) ∧ Below V.heap.size w10 w' ∧ ∀ k, k < w10.heap.size → (∀ p ∈ M1 ++ M2, p.2.ownBlock ≠ some k) → w'.heap[k]? = w10.heap[k]?) := by
              obtain ⟨z10, z11⟩ := z1.out
              obtain ⟨z20, z21⟩ := z2.out
              obtain ⟨z30, z31⟩ := z3.out
              have z40 := z4.out
              exact apart_two V.heap.size (n + n) u10 w10 wr (M1 ++ M2) (by rw [List.length_append]; omega) (by omega) HALL.out HBW.out (rws_two J1.out J2.out (by omega) (fun p hp k e => by have := PL1.out.1 p hp k e; omega) HR.out) (by omega)
            clear HROW HALL HT HTB
            go_wp2_with (go_at_call 21; (with_reducible refine HAPT.out.mono ?_); rintro e w5 ⟨rfl, hb5, hk5⟩; have HB5 := hiddenG hb5; have HK5 := hiddenG hk5; clear hb5 hk5)
            clear HAPT HBW k1' hki hlt hk
            have F5 : Hid (BlkA 24 q1 w5 #[.string (str nm), .slice s1 n k1] ∧ BlkA 24 q2 w5 #[.string (str nm), .slice s2 n k2] ∧ Rw11 V.heap.size w5 (.slice s1 n k1) M1 ∧ Rw11 w4.heap.size w5 (.slice s2 n k2) M2 ∧ (Value.slice s1 n k1).ownBlock ≠ some q1 ∧ (Value.slice s1 n k1).ownBlock ≠ some q2 ∧ (∀ k, (Value.slice s2 n k2).ownBlock = some k → (Value.slice s1 n k1).ownBlock ≠ some k) ∧ V.heap.size ≤ w5.heap.size) := by
              obtain ⟨z10, z11⟩ := z1.out
              obtain ⟨z20, z21⟩ := z2.out
              obtain ⟨z30, z31⟩ := z3.out
              have z40 := z4.out
              have z50 := HB5.out.size
              have m1 : ∀ p ∈ M1, ∀ k, p.2.ownBlock = some k → k < q1 := PL1.out.1
              have m2 : ∀ p ∈ M2, ∀ k, p.2.ownBlock = some k → w4.heap.size ≤ k ∧ k < q2 := fun p hp k e => ⟨own_row (J2.out.nums p hp) k e, PL2.out.1 p hp k e⟩
              have r1 : ∀ k, (Value.slice s1 n k1).ownBlock = some k → k < q1 := PL1.out.2
              have r2 : ∀ k, (Value.slice s2 n k2).ownBlock = some k → w4.heap.size ≤ k ∧ k < q2 := fun k e => ⟨own_row J2.out.row k e, PL2.out.2 k e⟩
              have b1 : w5.heap[q1]? = w10.heap[q1]? := HK5.out q1 (by omega) (fun p hp e => by
                rcases List.mem_append.1 hp with hp | hp
                · have := m1 p hp _ e; omega
                · have := m2 p hp _ e; omega)
              have b2 : w5.heap[q2]? = w10.heap[q2]? := HK5.out q2 (by omega) (fun p hp e => by
                rcases List.mem_append.1 hp with hp | hp
                · have := m1 p hp _ e; omega
                · have := m2 p hp _ e; omega)
              refine ⟨b1.trans S1.out, b2.trans S2.out, J1.out.keepR (fun k e => HK5.out k (by have := r1 k e; omega) (fun p hp e2 => ?_)), J2.out.keepR (fun k e => HK5.out k (by have := r2 k e; omega) (fun p hp e2 => ?_)), fun e => ?_, fun e => ?_, fun k e e2 => ?_, by omega⟩
              · rcases List.mem_append.1 hp with hp | hp
                · exact J1.out.off p hp k e2 e
                · have := m2 p hp _ e2; have := r1 k e; omega
              · rcases List.mem_append.1 hp with hp | hp
                · have := m1 p hp _ e2; have := r2 k e; omega
                · exact J2.out.off p hp k e2 e
              · have := r1 _ e; omega
              · have := r1 _ e; omega
              · have := r1 _ e2; have := r2 _ e; omega
            have BV5 : Hid (Below V.heap.size V w5) := V3.out.trans HB5.out
            have FX : Hid (∀ wr c ys, GrwI V.heap.size w5 wr (Value.slice s1 n k1).ownBlock c ys → BlkA 24 q1 wr #[.string (str nm), .slice s1 n k1] ∧ BlkA 24 q2 wr #[.string (str nm), .slice s2 n k2] ∧ Below V.heap.size V wr ∧ Rw11 w4.heap.size wr (.slice s2 n k2) M2) := fun wr c ys hG => by
              obtain ⟨g1, g2, g3, g4, g5, g6, g7, g8⟩ := F5.out
              exact ⟨hG.blkA g1 g5, hG.blkA g2 g6, BV5.out.trans hG.bel, ownR_keep g4 fun k e => hG.keep k (own_lt g4 k e) (g7 k e)⟩
            have G0 : Hid (GrwI V.heap.size w5 w5 (Value.slice s1 n k1).ownBlock (.slice s1 n k1) M1) := ⟨F5.out.2.2.1, fun k _ _ => rfl, fun k e => Or.inl e, Nat.le_refl _, Below.refl _ _, F5.out.2.2.2.2.2.2.2⟩
            clear F5 HK5 HB5 V3 BV5 J1 J2 S1 S2 PL1 PL2 HR HI HI0 HI1 HI2 z1 z2 z3 z4
            go_loopg [13] n (fun gk v wr => ∃ (k : Nat) (Xs : List El), k ≤ n ∧ gk = n - k ∧ v = .int .i64 (k : Int) ∧ Xs.length = n ∧ GrwI V.heap.size w5 wr (Value.slice s1 n k1).ownBlock (.slice s1 n k1) Xs)
            case atStart => exact ⟨0, M1, Nat.zero_le _, rfl, rfl, EL1, G0.out⟩
            case round =>
              clear G0
              obtain ⟨k, Xs, hk, rfl, rfl, hXn, hap⟩ := hrel
              have HAP := hiddenG hap
              have x1' := (FX.out _ _ _ hap).1.cell (k := 1) rfl
              clear hap
              by_cases hlt : k < n
              · have hki : (k : Int) < (n : Int) := by omega
                obtain ⟨g9, cap, he⟩ := HAP.out.own.open (by intro e; rw [e] at hXn; simp at hXn; omega)
                have he2 : s1 = some ⟨g9, 0, none⟩ := by injection he
                subst he2
                clear he
                obtain ⟨c0, c1, c2, c3, c4, c5, c6, c7, c8, c9, c10⟩ := HAP.out.at k (by omega)
                have f0 := HAP.out.frozen (k * 11); have f1 := HAP.out.frozen (k * 11 + 1); have f2 := HAP.out.frozen (k * 11 + 2); have f3 := HAP.out.frozen (k * 11 + 3); have f4 := HAP.out.frozen (k * 11 + 4); have f5 := HAP.out.frozen (k * 11 + 5); have f6 := HAP.out.frozen (k * 11 + 6); have f7 := HAP.out.frozen (k * 11 + 7); have f8 := HAP.out.frozen (k * 11 + 8); have f9 := HAP.out.frozen (k * 11 + 9); have f10 := HAP.out.frozen (k * 11 + 10)
                have HP := hiddenG (GrwI.put HAP.out hXn hlt (mkZ 77))
                clear HAP
                go_wp2
                go_roundg (n - (k + 1))
                case measure => omega
                case rel => exact ⟨k + 1, Xs.set k (mkZ 77), by omega, rfl, by go_num, by rw [List.length_set]; exact hXn, HP.out⟩
              · have hki : ¬ ((k : Int) < (n : Int)) := by omega
                obtain ⟨i0, hi, hz0, hz1, hz2⟩ := info_parts Try.infoIT
                have HI := hiddenG hi
                have HI0 := hiddenG hz0
                have HI1 := hiddenG hz1
                have HI2 := hiddenG hz2
                clear hi hz0 hz1 hz2
                go_wp2
                clear hki hlt hk x1'
                go_loopg [14, 15] 16 (fun gk c i wr => ∃ (k : Nat) (ys : List El), k ≤ 16 ∧ gk = 16 - k ∧ i = .int .i64 (k : Int) ∧ ys.length = n + k ∧ GrwI V.heap.size w5 wr (Value.slice s1 n k1).ownBlock c ys)
                case atStart => exact ⟨0, Xs, Nat.zero_le _, rfl, rfl, hXn, HAP.out⟩
                case round =>
                  clear HAP
                  obtain ⟨k, ys, hk, rfl, rfl, hlen, hap⟩ := hrel
                  have HAP := hiddenG hap
                  clear hap
                  by_cases hlt : k < 16
                  · have hki : (k : Int) < 16 := by omega
                    have hlow : V.heap.size ≤ wr.heap.size := Nat.le_trans HAP.out.low HAP.out.size
                    go_wp2_with (at_builtin; refine wpList_append_told _ rfl (.tmp 109) (.tmp 111) 22 rfl V.heap.size 50 i0 (.agg #[.int .u8 0, .string ⟨#[]⟩, .string ⟨#[]⟩, .slice none 0 0, .string ⟨#[]⟩, .int .i64 0, .int .i64 0, .string ⟨#[]⟩, .int .i64 0, .int .i64 0, .int .i64 0]) 11 136 Try.underlying22 HI.out HI0.out HI1.out HI2.out rfl (by decide) _ ys.length _ rfl (HAP.out.alloc _).own ⟨wr.heap.size, 0, none⟩ 1 1 (by decide) (itP (mkZ 78)) rfl rfl (it_newsZ wr 78) (itP_one _ _ _ _) (by unfold maxLen; omega) (by omega) (by simp; omega) ?_; intro v' w2' hown htold; have K8 : Hid (GrwI V.heap.size w5 w2' (Value.slice s1 n k1).ownBlock v' (ys ++ [mkZ 78])) := (HAP.out.alloc _).grow hown htold; clear hown htold)
                    go_roundg (16 - (k + 1))
                    case measure => omega
                    case rel => exact ⟨k + 1, ys ++ [mkZ 78], by omega, rfl, by go_num, by rw [List.length_append, List.length_singleton]; omega, K8.out⟩
                  · have ek : k = 16 := by omega
                    subst ek
                    have hki : ¬ ((16 : Int) < 16) := by omega
                    clear hlt hk
                    have FW := hiddenG (FX.out _ _ _ HAP.out)
                    clear FX HAP HI HI0 HI1 HI2
                    have x2' := FW.out.2.1.cell (k := 1) rfl
                    go_wp2
                    go_loopg [16] n (fun gk v v6 => ∃ (k : Nat), k ≤ n ∧ gk = n - k ∧ v = .int .i64 (k : Int) ∧ v6 = wr)
                    case atStart => exact ⟨0, Nat.zero_le _, rfl, rfl, rfl⟩
                    case round =>
                      obtain ⟨k, hk, rfl, rfl, rfl⟩ := hrel
                      by_cases hlt : k < n
                      · have hki : (k : Int) < (n : Int) := by omega
                        obtain ⟨g9, cap, he, hc⟩ := FW.out.2.2.2.cells11 (by intro e; rw [e] at EL2; simp at EL2; omega)
                        have he2 : s2 = some ⟨g9, 0, none⟩ := by injection he
                        subst he2
                        clear he
                        have c0 := (hc k (by omega)).c0
                        obtain ⟨k40, k4⟩ := of_map (P := fun x => 0 ≤ x.kind ∧ x.kind ≤ 4) EM2.out HK.out _ (nthI_mem (show k < M2.length by omega))
                        clear hc
                        generalize (nthI M2 k).1.kind = kd at *
                        have hk4 : ¬ ((4 : Int) < kd) := by omega
                        go_wp2
                        go_roundg (n - (k + 1))
                        case measure => omega
                        case rel => exact ⟨k + 1, by omega, rfl, by go_num, rfl⟩
                      · have hki : ¬ ((k : Int) < (n : Int)) := by omega
                        go_wp2_with (first | (go_at_call 14; (with_reducible refine (AW.out _).mono ?_); rintro e v1 ⟨rfl, bx1⟩; have VA := hiddenG (FW.out.2.2.1.trans (bx1.mono FW.out.2.2.1.size)); clear bx1; have y0 : v1.cell? ⟨t6, 0, none⟩ = some (.string (str g.name)) := (Y3.out.below VA.out).cell rfl; have y1 : v1.cell? ⟨t6, 1, none⟩ = some (.slice x1 g.actors.length d1) := (Y3.out.below VA.out).cell rfl; have y2 : v1.cell? ⟨t6, 2, none⟩ = some (.slice x2 g.edges.length d2) := (Y3.out.below VA.out).cell rfl; have y3 : v1.cell? ⟨t6, 3, none⟩ = some (.slice x3 g.ins.length d3) := (Y3.out.below VA.out).cell rfl; have y4 : v1.cell? ⟨t6, 4, none⟩ = some (.slice x4 g.outs.length d4) := (Y3.out.below VA.out).cell rfl; have r0 : v1.cell? ⟨w.heap.size, 0, none⟩ = some (.string (str g.name)) := (X3.out.below VA.out).cell rfl; have r1 : v1.cell? ⟨w.heap.size, 1, none⟩ = some (.slice a1 g.actors.length c1) := (X3.out.below VA.out).cell rfl; have r2 : v1.cell? ⟨w.heap.size, 2, none⟩ = some (.slice a2 g.edges.length c2) := (X3.out.below VA.out).cell rfl; have r3 : v1.cell? ⟨w.heap.size, 3, none⟩ = some (.slice a3 g.ins.length c3) := (X3.out.below VA.out).cell rfl; have r4 : v1.cell? ⟨w.heap.size, 4, none⟩ = some (.slice a4 g.outs.length c4) := (X3.out.below VA.out).cell rfl) | (go_at_call 22; (with_reducible refine (KG.out _ VA.out).mono ?_); rintro e v2 ⟨rfl, bx2⟩; have VB := hiddenG (VA.out.trans (bx2.mono VA.out.size)); clear bx2))
                        go_ret
                        exact ⟨by first | rfl | simp, B3.out.trans (VB.out.mono B3.out.size)⟩
end Go.Proofs.Ytlfmmdioondaoaa

/- Texts of one chain, laid one behind the other. -/
import Derived.Test.YtimioiaoefhabaaGreatPartPackChecks28
import Derived.Test.YtimioiaoefhabaaGreatPartPackChecks20
import Derived.Test.YtimioiaoefhabaaGreatPartPackChecks14
import Derived.Test.YtimioiaoefhabaaGreatPartPackChecks21
namespace Go.Proofs.YtimioiaoefhabaaGreat
open Go.ChangeShapes Go.WideShapes Go.ChangeAt Go.RowKit
/-- A row put behind nothing. -/
theorem wpList_appVNil {α : Type} {f : α → List Value} {c : Nat} {T : TypeId} {w : World} {ops : Array Oper} {rest : List Oper} {o : Oper} {a : Act} {Q : Exit → Act → World → Prop} (hgd : o.guard = none) (s x : Operand) (t : TypeId) (ho : o.op = .call { callee := .builtin .append, args := #[s, x], argTypes := #[t, t] })
    (ht : Tryz.prog.underlying t = some (.slice T)) (z : Value) (bytes : Nat) (hI : (Tryz.prog.info? T).map (fun i => (i.zero, i.size, i.bytes)) = some (some z, c, bytes)) (hz : z.cells.size = c) (hc0 : 0 < c) (hb0 : 0 < bytes) (hf : ∀ x, (f x).length = c) (h1 : ∀ x, ∀ u ∈ f x, u.oneCell' = true)
    (B : Nat) (hs : a.eval s = .slice none 0 0) (x2 : Option Addr) (M : List α) (n c2 : Nat) (hm : M.length = n) (hx : a.eval x = .slice x2 n c2) (hM : AtV f c w x2 M) (hn : n * bytes ≤ 140737488351232) (hB : B ≤ w.heap.size)
    (h : ∀ d c' w', CapV T f c B w' d c' M → Below w.heap.size w w' → wpList Tryz.prog ops Q rest (a.put o.dst (.slice d n c')) w') : wpList Tryz.prog ops Q (o :: rest) a w := by
  subst hm
  obtain ⟨i1, hi1, hy0, hy1, hy2⟩ := info_parts hI
  by_cases h0 : M = []
  · subst h0
    have hr := run_append_zeroV (P := Tryz.prog) (w := w) B t o.type T i1 c ht hi1 (.slice none 0 0) 0 [] (World.ownsRow_nil _ _ _ _) x2 c2
    refine wpList_plain hgd fun K hK => ?_
    unfold Oper.wp execOp
    simp only [ho, resolve, invoke, builtin, Sem.run_bind, Sem.run_pure, Result.andThen_ok, List.map_toArray, List.map_cons, List.map_nil, hs, hx, List.length_nil, hr]
    exact hK _ _ (h none 0 w (CapV.nil _ _) (Below.refl _ _))
  · rcases hM with e | ⟨b, off, rfl, hc⟩
    · exact absurd e h0
    have hmx : M.length ≤ M.length * bytes := Nat.le_mul_of_pos_right _ hb0
    refine wpList_append_told (P := Tryz.prog) w hgd s x t ho B T i1 z c bytes ht hi1 hy0 hy1 hy2 hz hc0 (.slice none 0 0) 0 [] hs (World.ownsRow_nil _ _ _ _) ⟨b, off, none⟩ M.length c2 (List.length_pos_iff.2 h0) (M.flatMap f) hx (flatV_len hf M) (fun j u hu => ?_) (fun u hu => ?_) (by unfold maxLen; omega) (by rw [Nat.zero_add]; omega) hB ?_
    · have hj : j < M.length * c := by have := (List.getElem?_eq_some_iff.1 hu).1; rw [flatV_len hf] at this; exact this
      have hk : j / c < M.length := Nat.div_lt_of_lt_mul (by rw [Nat.mul_comm]; exact hj)
      have hr : j % c < c := Nat.mod_lt _ hc0
      have e1 : j / c * c + j % c = j := by rw [Nat.mul_comm]; exact Nat.div_add_mod j c
      have hg := flatV_get hf (List.getElem?_eq_getElem hk) hr
      rw [e1, hu] at hg
      have q := hc _ _ (List.getElem?_eq_getElem hk) _ u hg.symm
      rw [Nat.add_assoc, e1] at q
      rw [Addr.add_lit]; exact q
    · obtain ⟨y, -, hy⟩ := List.mem_flatMap.1 hu
      exact h1 y u hy
    · intro v' w' h2 h3
      rw [Nat.zero_add, List.nil_append] at h2
      rcases h3 with ⟨g1, cap, e1, -, -⟩ | ⟨cap, rfl, hg⟩
      · cases e1
      · rw [Nat.zero_add] at h2 ⊢
        exact h _ _ w' h2 ((Below.refl _ _).grown hg (Nat.le_refl _) (fun k hk => by cases hk))
theorem wpList_appVW {α : Type} {f : α → List Value} {c : Nat} {T : TypeId} {w : World} {ops : Array Oper} {rest : List Oper} {o : Oper} {a : Act} {Q : Exit → Act → World → Prop} (hgd : o.guard = none) (s x : Operand) (t : TypeId) (ho : o.op = .call { callee := .builtin .append, args := #[s, x], argTypes := #[t, t] })
    (ht : Tryz.prog.underlying t = some (.slice T)) (z : Value) (bytes : Nat) (hI : (Tryz.prog.info? T).map (fun i => (i.zero, i.size, i.bytes)) = some (some z, c, bytes)) (hz : z.cells.size = c) (hc0 : 0 < c) (hbt : 0 < bytes) (hf : ∀ x, (f x).length = c)
    (B : Nat) (d0 : Option Addr) (c0 : Nat) (zs : List α) (n : Nat) (hl : zs.length = n) (hs : a.eval s = .slice d0 n c0) (hown : CapV T f c B w d0 c0 zs) (g : Nat) (i : α) (hx : a.eval x = .slice (some ⟨g, 0, none⟩) 1 1) (hc : ∀ j u, (f i)[j]? = some u → w.cell? ⟨g, j, none⟩ = some u) (h1 : ∀ u ∈ f i, u.oneCell' = true) (hn : (n + 1) * bytes ≤ 140737488355328) (hB : B ≤ w.heap.size)
    (h : ∀ d c' w', GrwV T f c B w d0 (zs ++ [i]) w' d c' → wpList Tryz.prog ops Q rest (a.put o.dst (.slice d (n + 1) c')) w') : wpList Tryz.prog ops Q (o :: rest) a w := by
  subst hl
  obtain ⟨i1, hi1, hy0, hy1, hy2⟩ := info_parts hI
  refine wpList_append_told (P := Tryz.prog) w hgd s x t ho B T i1 z c bytes ht hi1 hy0 hy1 hy2 hz hc0 (.slice d0 zs.length c0) zs.length _ hs hown ⟨g, 0, none⟩ 1 1 (by decide) (f i) hx (by rw [hf, Nat.one_mul]) (fun j u hu => by
    have := hc j u hu
    by_cases hj : j = 0
    · subst hj; simpa [Addr.add] using this
    · simpa [Addr.add, hj] using this) h1 (by have h9 : zs.length + 1 ≤ (zs.length + 1) * bytes := Nat.le_mul_of_pos_right _ hbt; unfold maxLen; omega) hn hB ?_
  intro v' w' h2 h3
  have h2' : w'.ownsRow B T c v' (zs ++ [i]).length ((zs ++ [i]).flatMap f) := by
    rw [List.flatMap_append, List.length_append]
    simpa using h2
  rcases h3 with ⟨g1, cap, e1, rfl, hg⟩ | ⟨cap, rfl, hg⟩
  · cases e1
    refine h _ _ w' ⟨by unfold CapV; simpa using h2', fun k hk hne => ?_, fun z hz => .inl hz, hg.size, hg.os, hg.tape, hg.output⟩
    exact hg.block k hk (fun e => by cases e; exact hne _ rfl rfl)
  · refine h _ _ w' ⟨by unfold CapV; simpa using h2', fun k hk hne => ?_, fun z hz => by cases hz; exact .inr (Nat.le_refl _), hg.size, hg.os, hg.tape, hg.output⟩
    exact hg.block k hk (fun e => by cases e)
theorem rnV_lenY (x : Int × Int) : (rnV x).length = 2 := rfl
theorem rnV_oneY (x : Int × Int) : ∀ u ∈ rnV x, u.oneCell' = true := by
  intro u hu
  simp only [rnV, List.mem_cons, List.not_mem_nil, or_false] at hu
  rcases hu with rfl | rfl <;> rfl
theorem atV_gn {w : World} {a : Option Addr} {L : List (Int × Int)} (h : AtGn w a L) : AtV rnV 2 w a L := by
  rcases h with h | ⟨b, off, e, hc⟩
  · exact .inl h
  · refine .inr ⟨b, off, e, fun k x hx j u hu => ?_⟩
    have hk : k < L.length := (List.getElem?_eq_some_iff.1 hx).1
    have e2 : nthX L k = x := nthX_at hx
    obtain ⟨c0, c1⟩ := hc k hk
    rw [e2] at c0 c1
    match j, hu with
    | 0, hu => cases hu; exact c0
    | 1, hu => cases hu; exact c1
theorem gn_atV {w : World} {a : Option Addr} {L : List (Int × Int)} (h : AtV rnV 2 w a L) : AtGn w a L := by
  rcases h with h | ⟨b, off, e, hc⟩
  · exact .inl h
  · refine .inr ⟨b, off, e, fun k hk => ?_⟩
    have e2 : L[k]? = some (nthX L k) := by rw [nthX_getR hk, List.getElem?_eq_getElem hk]
    exact ⟨hc k _ e2 0 _ rfl, hc k _ e2 1 _ rfl⟩
set_option maxRecDepth 100000 in
set_option maxHeartbeats 16000000 in
theorem packChecks_walk (n : NN) (a : Option Addr) (c : Nat) (ga : Option Addr) (ca : Nat) (L : List (Int × Int)) (tot : Int) (a1 : Option Addr) (len1 cap1 : Nat) (zs : List Int) (w : World) (h : ArgN w a c n) (hm : ArgR w ga L.length ca L) (ht : -9223372036854775808 ≤ tot ∧ tot ≤ 9223372036854775807) (h1 : Arg w a1 len1 cap1 zs) : Calls Tryz.prog 5 #[.agg #[.int .i64 n.nodes, .slice a n.arcs.length c], .agg #[.slice ga L.length ca, .int .i64 tot], .slice a1 len1 cap1] w fun e w' => e = .returned (.bool true) ∧ Below w.heap.size w w' := by
  obtain rfl := h1.size
  have y1 : Hid (Below w.heap.size w (w.alloc (.cells #[.int .i64 n.nodes, .slice a n.arcs.length c] 24))) := (Below.refl _ _).alloc (Nat.le_refl _) _
  have hs1 : (w.alloc (.cells #[.int .i64 n.nodes, .slice a n.arcs.length c] 24)).heap.size = w.heap.size + 1 := World.size_alloc ..
  have y2 : Hid (Below (w.alloc (.cells #[.int .i64 n.nodes, .slice a n.arcs.length c] 24)).heap.size (w.alloc (.cells #[.int .i64 n.nodes, .slice a n.arcs.length c] 24)) ((w.alloc (.cells #[.int .i64 n.nodes, .slice a n.arcs.length c] 24)).alloc (.cells #[.slice ga L.length ca, .int .i64 tot] 41))) := (Below.refl _ _).alloc (Nat.le_refl _) _
  have G0 := hiddenN ((blkA_new 24 w #[.int .i64 n.nodes, .slice a n.arcs.length c]).below y2.out)
  have D0 := hiddenN (blkA_new 41 (w.alloc (.cells #[.int .i64 n.nodes, .slice a n.arcs.length c] 24)) #[.slice ga L.length ca, .int .i64 tot])
  have B0 := hiddenN (y1.out.trans (y2.out.mono (by rw [hs1]; omega)))
  rw [hs1] at D0
  have HA := hiddenN h
  have HM := hiddenN hm
  have H1 := hiddenN h1
  have HTB := hiddenN ht
  have hroom : n.arcs.length ≤ 4611686018427387904 := by have := h.room; omega
  have hzl : zs.length ≤ 4611686018427387904 := by have := h1.reach; omega
  have hLr := hm.room
  have LN : Hid (∀ U, Below w.heap.size w U → Calls Tryz.prog 6 #[.agg #[.int .i64 n.nodes, .slice a n.arcs.length c]] U (LentE n U)) := fun U hb => lentNet_any n a c U (HA.out.below hb)
  have AW : Hid (∀ U, Calls Tryz.prog 11 #[] U fun e w' => e = .returned (.bool true) ∧ Below U.heap.size U w') := fun U => awakeX U
  have CK : Hid (∀ U x y cx cy ar cr, AtN U (some x) n.arcs → At U y zs → AtGn U ar L → Calls Tryz.prog 17 #[.agg #[.int .i64 n.nodes, .slice (some x) n.arcs.length cx], .agg #[.slice ar L.length cr, .int .i64 tot], .slice y zs.length cy] U fun e w' => e = .returned (.int .i64 (chkC n L tot zs)) ∧ Below U.heap.size U w') := fun U x y cx cy ar cr q1 q2 q3 => check_anyX n (some x) cx U q1 hroom (fun e => by cases e) y cy zs q2 hzl ar L.length cr L tot q3 rfl
  have RC : Hid (∀ U, Below w.heap.size w U → Calls Tryz.prog 19 #[.agg #[.int .i64 n.nodes, .slice a n.arcs.length c], .agg #[.slice ga L.length ca, .int .i64 tot], .slice a1 zs.length cap1] U fun e w' => e = .returned (.int .i64 (chkC n L tot zs)) ∧ Below U.heap.size U w') := fun U hb => rcheck19_any n a c U ((HA.out.below hb).lies) hroom a1 cap1 zs ((H1.out.below hb).lies) hzl ga L.length ca L tot ((HM.out.below hb).lies) rfl
  have SR : Hid (∀ U (x y : Option Addr) cx cy, AtGn U x L → AtGn U y L → Calls Tryz.prog 18 #[.slice x L.length cx, .slice y L.length cy] U fun e w' => e = .returned (.bool true) ∧ Below U.heap.size U w') := fun U x y cx cy q1 q2 => sameRegions_anyX x y L.length cx cy L U q1 q2 rfl (by omega)
  obtain ⟨E1, hE1⟩ : ∃ q, chkC n L tot zs = q := ⟨_, rfl⟩
  obtain ⟨nL, hnL⟩ : ∃ q, L.length = q := ⟨_, rfl⟩
  have HNL := hiddenN hnL
  rw [hE1] at CK RC
  rw [hnL] at CK RC SR hLr D0 B0 G0 ⊢
  have CK1 := CK
  have qE : (E1 == E1) = true := by simp
  clear y1 y2 hs1 h hm ht h1 hE1 hnL CK
  have LD : Hid (∀ U, Below w.heap.size w U → Calls Tryz.prog 7 #[.slice a1 zs.length cap1] U fun e w' => ∃ gl, e = .returned (.slice (some ⟨gl, 0, none⟩) zs.length (zs.length + 4)) ∧ Lend U.heap.size w' gl zs.length zs ∧ Below U.heap.size U w') := fun U hb => lent_any a1 zs zs.length cap1 U (H1.out.below hb)
  go_enter Tryz.func5, Tryz.ntmps5
  go_upto_region 1 with fail
  generalize ((w.alloc (.cells #[.int .i64 n.nodes, .slice a n.arcs.length c] 24)).alloc (.cells #[.slice ga nL ca, .int .i64 tot] 41)) = W0 at *
  have z0 := G0.out.cell (k := 0) rfl; have z1 := G0.out.cell (k := 1) rfl; simp only [List.getElem_toArray, List.getElem_cons_zero, List.getElem_cons_succ] at z0 z1
  go_upto_region 2 with (go_at_call 6; (with_reducible refine (LN.out _ B0.out).mono ?_); rintro e W1 ⟨g, gc, rfl, q1, q2⟩; have E1 := hiddenN q1; have L1 := hiddenN (B0.out.trans (q2.mono B0.out.size)); have G1 := hiddenN (G0.out.below q2); have PB1 := hiddenN (D0.out.below q2); have h01 := hiddenN q2.size; clear q1 q2 z0 z1)
  have bM := (Below.refl W1.heap.size W1).alloc (Nat.le_refl _) (.cells #[.int .i64 n.nodes, .slice (some ⟨g, 0, none⟩) n.arcs.length gc] 24)
  have XM := hiddenN (blkA_new 24 W1 #[.int .i64 n.nodes, .slice (some ⟨g, 0, none⟩) n.arcs.length gc])
  have E2 := hiddenN (E1.out.below bM)
  have L2 := hiddenN (L1.out.trans (bM.mono L1.out.size))
  have G2 := hiddenN (G1.out.below bM)
  have PB2 := hiddenN (PB1.out.below bM)
  have hsM := hiddenN bM.size
  generalize W1.alloc (.cells #[.int .i64 n.nodes, .slice (some ⟨g, 0, none⟩) n.arcs.length gc] 24) = W2 at *
  clear bM
  go_upto_region 3 with (go_at_call 7; (with_reducible refine (LD.out _ L2.out).mono ?_); rintro e W3 ⟨gl, rfl, q1, q2⟩; have PB3 := hiddenN (PB2.out.below q2); have D3 := hiddenN q1; have HD0 := hiddenN (show HdV w W3 n a c g gc gl W1.heap.size W3.heap.size zs from ⟨G2.out.below q2, XM.out.below q2, ⟨Nat.le_trans B0.out.size E1.out.low, (E2.out.below q2).lt, E2.out.cap, (E2.out.below q2).all⟩, ⟨Nat.le_trans L2.out.size q1.1, q1.2⟩, L2.out.trans (q2.mono L2.out.size), (G2.out.below q2).lt, (XM.out.below q2).lt, (E2.out.below q2).lt, q1.lt.2, Nat.le_refl _⟩); clear q1 q2)
  obtain ⟨mb, hmb⟩ : ∃ q, W1.heap.size = q := ⟨_, rfl⟩
  obtain ⟨Q, hQ⟩ : ∃ q, W3.heap.size = q := ⟨_, rfl⟩
  have HD3 := HD0
  rw [hQ] at HD3
  have HQ := hiddenN hQ
  clear D0 PB1 PB2 LD LN G0 G1 E1 L1 h01 XM E2 L2 G2 hsM D3 HD0 hQ hmb
  have m0 := HD3.out.box.cell (k := 0) rfl; have m1 := HD3.out.box.cell (k := 1) rfl; simp only [List.getElem_toArray, List.getElem_cons_zero, List.getElem_cons_succ] at m0 m1
  have WS : Hid (w.heap.size + 1 < W3.heap.size) := PB3.out.lt
  have d0 := PB3.out.cell (k := 0) rfl
  have d1 := PB3.out.cell (k := 1) rfl
  simp only [List.getElem_toArray, List.getElem_cons_zero, List.getElem_cons_succ] at d0 d1
  have GA3 := hiddenN (atV_gn (HM.out.lies.below HD3.out.bel))
  go_upto_region 5 with (at_builtin; refine wpList_appVNil rfl _ _ 39 rfl Tryz.underlying39 _ 16 Tryz.infoGn rfl (by decide) (by decide) rnV_lenY rnV_oneY W3.heap.size rfl ga L nL ca HNL.out rfl GA3.out (by omega) (Nat.le_refl _) ?_; intro d4 c4 W4 hc hb; have R4 := hiddenN hc; have K4 := hiddenN hb; have HD4 := hiddenN (HD3.out.below hb); have PB4 := hiddenN (PB3.out.below hb); clear hc hb)
  clear d0 d1 PB3 GA3
  have bX := (Below.refl W4.heap.size W4).alloc (Nat.le_refl _) (.cells #[.int .i64 (-77), .int .i64 0] 47)
  have R5 := hiddenN (R4.out.later bX)
  have HD5 := hiddenN (HD4.out.below bX)
  have PB5 := hiddenN (PB4.out.below bX)
  have CX : Hid (∀ j u, (rnV (((-77) : Int), (0 : Int)))[j]? = some u → (W4.alloc (.cells #[.int .i64 (-77), .int .i64 0] 47)).cell? ⟨W4.heap.size, j, none⟩ = some u) := (fun j u hu => (blkA_new 47 W4 #[.int .i64 (-77), .int .i64 0]).cell (by rw [← Array.getElem?_toList]; exact hu))
  have K5 := hiddenN (K4.out.trans (bX.mono K4.out.size))
  clear bX R4 HD4 PB4 K4 HD3 m0 m1
  go_upto_region 6 with (at_builtin; refine wpList_appVW rfl _ _ 39 rfl Tryz.underlying39 _ 16 Tryz.infoGn rfl (by decide) (by decide) rnV_lenY W3.heap.size d4 c4 L nL HNL.out rfl R5.out W4.heap.size (((-77) : Int), (0 : Int)) rfl CX.out (rnV_oneY _) (by omega) K5.out.size ?_; intro d6 c6 W6 hg; have HG := hiddenN hg; clear hg)
  have K6 := hiddenN (HG.out.below (Q := W3.heap.size) K5.out.size (fun y hy => (R5.out.lt y hy).1))
  have HD6 := hiddenN (HD5.out.keep (K6.out.mono (by rw [← HQ.out]; exact Nat.le_refl _)))
  have PB6 := hiddenN (PB5.out.keep (K6.out.block _ (by have := WS.out; omega)))
  have R6 := hiddenN HG.out.own
  have hl6 : (L ++ [(((-77) : Int), (0 : Int))]).length = nL + 1 := by rw [List.length_append, HNL.out]; rfl
  have hcap := R6.out.room
  rw [hl6] at hcap
  rcases R6.out.at rnV_lenY with e9 | ⟨lb, lo, hd6, hlc⟩
  · simp at e9
  obtain ⟨hlo, -⟩ := R6.out.off _ hd6
  simp only at hlo
  subst hlo
  subst hd6
  have lm := hlc nL (((-77) : Int), (0 : Int)) (by rw [List.getElem?_append_right (by rw [HNL.out]; exact Nat.le_refl _), HNL.out, Nat.sub_self]; rfl) 0 _ rfl
  rw [Nat.zero_add, Nat.add_zero] at lm
  have LR : Hid (AtGn W6 (some ⟨lb, 0, none⟩) L) := gn_atV (.inr ⟨lb, 0, rfl, fun k x hx j u hu => hlc k x (by rw [List.getElem?_append_left (List.getElem?_eq_some_iff.1 hx).1]; exact hx) j u hu⟩)
  have GR : Hid (AtGn W6 ga L) := HM.out.lies.below HD6.out.bel
  obtain ⟨lc, hlc2⟩ : ∃ q, c6 = q := ⟨_, rfl⟩
  rw [hlc2] at hcap ⊢
  have hcap2 : nL ≤ lc := by omega
  have hnn : (0 : Int) ≤ (nL : Int) := by omega
  have hix : (nL : Int) < (nL : Int) + 1 := by omega
  clear hlc hlc2 hl6 HG R5 HD5 PB5 CX K5 K6
  have HDR := HD6
  have d0 := PB6.out.cell (k := 0) rfl
  have d1 := PB6.out.cell (k := 1) rfl
  simp only [List.getElem_toArray, List.getElem_cons_zero, List.getElem_cons_succ] at d0 d1
  have m0 := HD6.out.box.cell (k := 0) rfl; have m1 := HD6.out.box.cell (k := 1) rfl; simp only [List.getElem_toArray, List.getElem_cons_zero, List.getElem_cons_succ] at m0 m1
  try dsimp only [List.append_eq, List.cons_append, List.nil_append]
  refine wp_region_gen [] (fun d i u z => match i with
      | 0 => z = .agg #[.int .i64 n.nodes, .slice (some ⟨g, 0, none⟩) n.arcs.length gc]
      | 1 => z = .slice (some ⟨lb, 0, none⟩) (nL + 1) lc
      | 2 => z = .pointer (some ⟨w.heap.size + 1, 0, none⟩)
      | 3 => z = .slice ga nL ca
      | 4 => z = .int .i64 (nL : Int)
      | 5 => z = .slice (some ⟨lb, 0, none⟩) nL lc
      | 6 => z = .pointer (some ⟨w.heap.size + 1, 1, none⟩)
      | 7 => z = .int .i64 tot
      | 8 => z = .agg #[.slice (some ⟨lb, 0, none⟩) nL lc, .int .i64 tot]
      | 9 => z = .slice (some ⟨gl, 0, none⟩) zs.length (zs.length + 4)
      | 10 => z = .int .i64 E1
      | 11 => z = .int .i64 E1
      | _ => True) (fun _ u => Below W6.heap.size W6 u) (by kernel_rfl) (by kernel_rfl) (by kernel_rfl) ?_ ?_ ?_ ?_ ?_ ?_ (by kernel_rfl)
  · intro d i w v w' h hb
    match i, h with
    | 0, h => exact h
    | 1, h => exact h
    | 2, h => exact h
    | 3, h => exact h
    | 4, h => exact h
    | 5, h => exact h
    | 6, h => exact h
    | 7, h => exact h
    | 8, h => exact h
    | 9, h => exact h
    | 10, h => exact h
    | 11, h => exact h
    | _ + 12, _ => trivial
  · intro d u u' h hb
    exact h.trans (hb.mono h.size)
  · exact Below.refl _ _
  · intro d i o ρ w' hm ho hf hg hC hcs hfs hfr hdep
    match i, hm, ho, hf, hg, hfr, hdep with
    | 0, _, ho, hf, hg, hfr, hdep =>
      simp only [gTA, gCZ, gSI] at ho
      subst ho
      refine ⟨fun _ => ?_, fun hw => absurd (show true = false from hw) (by decide)⟩
      have ts : ρ (.tmp 7) = .pointer (some ⟨W1.heap.size, 0, none⟩) := hfr 7 (by kernel_rfl)
      have k0 := cellN_later hC m0
      have k1 := cellN_later hC m1
      simp [go_sem, ts, k0, k1]
      exact ⟨Below.refl _ _, rfl⟩
    | 1, _, ho, hf, hg, hfr, hdep =>
      simp only [gTA, gCZ, gCS, gSI] at ho
      subst ho
      refine ⟨fun _ => ?_, fun hw => absurd (show true = false from hw) (by decide)⟩
      have ts : ρ (.tmp 9) = .slice (some ⟨lb, 0, none⟩) (nL + 1) lc := hfr 9 (by kernel_rfl)
      simp [go_sem, ts]
      exact ⟨Below.refl _ _, rfl⟩
    | 2, _, ho, hf, hg, hfr, hdep =>
      simp only [gTA, gCZ, gCS, gSI] at ho
      subst ho
      refine ⟨fun _ => ?_, fun hw => absurd (show true = false from hw) (by decide)⟩
      have ts : ρ (.tmp 4) = .pointer (some ⟨w.heap.size + 1, 0, none⟩) := hfr 4 (by kernel_rfl)
      simp [go_sem, ts]
      exact ⟨Below.refl _ _, rfl⟩
    | 3, _, ho, hf, hg, hfr, hdep =>
      simp only [gTA, gCZ, gCS, gSI] at ho
      subst ho
      refine ⟨fun _ => ?_, fun hw => absurd (show true = false from hw) (by decide)⟩
      have k0 := cellN_later hC d0
      have d0 : ρ (.tmp 26) = .pointer (some ⟨w.heap.size + 1, 0, none⟩) := hdep 2 26 (by kernel_rfl) (by kernel_rfl)
      simp [go_sem, d0, k0]
      exact ⟨Below.refl _ _, rfl⟩
    | 4, _, ho, hf, hg, hfr, hdep =>
      simp only [gTA, gCZ, gCS, gSI] at ho
      subst ho
      refine ⟨fun _ => ?_, fun hw => absurd (show true = false from hw) (by decide)⟩
      have d0 : ρ (.tmp 27) = .slice ga nL ca := hdep 3 27 (by kernel_rfl) (by kernel_rfl)
      simp [go_sem, d0]
      exact ⟨Below.refl _ _, rfl⟩
    | 5, _, ho, hf, hg, hfr, hdep =>
      simp only [gTA, gCZ, gCS, gSI] at ho
      subst ho
      refine ⟨fun _ => ?_, fun hw => absurd (show true = false from hw) (by decide)⟩
      have d0 : ρ (.tmp 25) = .slice (some ⟨lb, 0, none⟩) (nL + 1) lc := hdep 1 25 (by kernel_rfl) (by kernel_rfl)
      have d1 : ρ (.tmp 28) = .int .i64 (nL : Int) := hdep 4 28 (by kernel_rfl) (by kernel_rfl)
      simp [go_sem, d0, d1, hcap2, hnn]
      exact ⟨Below.refl _ _, rfl⟩
    | 6, _, ho, hf, hg, hfr, hdep =>
      simp only [gTA, gCZ, gCS, gSI] at ho
      subst ho
      refine ⟨fun _ => ?_, fun hw => absurd (show true = false from hw) (by decide)⟩
      have ts : ρ (.tmp 4) = .pointer (some ⟨w.heap.size + 1, 0, none⟩) := hfr 4 (by kernel_rfl)
      simp [go_sem, ts]
      exact ⟨Below.refl _ _, rfl⟩
    | 7, _, ho, hf, hg, hfr, hdep =>
      simp only [gTA, gCZ, gCS, gSI] at ho
      subst ho
      refine ⟨fun _ => ?_, fun hw => absurd (show true = false from hw) (by decide)⟩
      have k0 := cellN_later hC d1
      have d0 : ρ (.tmp 30) = .pointer (some ⟨w.heap.size + 1, 1, none⟩) := hdep 6 30 (by kernel_rfl) (by kernel_rfl)
      simp [go_sem, d0, k0]
      exact ⟨Below.refl _ _, rfl⟩
    | 8, _, ho, hf, hg, hfr, hdep =>
      simp only [gTA, gCZ, gCS, gSI] at ho
      subst ho
      refine ⟨fun _ => ?_, fun hw => absurd (show true = false from hw) (by decide)⟩
      have d0 : ρ (.tmp 29) = .slice (some ⟨lb, 0, none⟩) nL lc := hdep 5 29 (by kernel_rfl) (by kernel_rfl)
      have d1 : ρ (.tmp 31) = .int .i64 tot := hdep 7 31 (by kernel_rfl) (by kernel_rfl)
      simp [go_sem, d0, d1]
      exact ⟨Below.refl _ _, rfl⟩
    | 9, _, ho, hf, hg, hfr, hdep =>
      simp only [gTA, gCZ, gCS, gSI] at ho
      subst ho
      refine ⟨fun _ => ?_, fun hw => absurd (show true = false from hw) (by decide)⟩
      have ts : ρ (.tmp 8) = .slice (some ⟨gl, 0, none⟩) zs.length (zs.length + 4) := hfr 8 (by kernel_rfl)
      simp [go_sem, ts]
      exact ⟨Below.refl _ _, rfl⟩
    | 10, _, ho, hf, hg, hfr, hdep =>
      simp only [gTA, gCZ, gCS, gSI] at ho
      subst ho
      refine ⟨fun _ => ?_, fun hw => absurd (show true = false from hw) (by decide)⟩
      have t0 : ρ (.tmp 24) = .agg #[.int .i64 n.nodes, .slice (some ⟨g, 0, none⟩) n.arcs.length gc] := hdep 0 24 (by kernel_rfl) (by kernel_rfl)
      have t1 : ρ (.tmp 32) = .agg #[.slice (some ⟨lb, 0, none⟩) nL lc, .int .i64 tot] := hdep 8 32 (by kernel_rfl) (by kernel_rfl)
      have t2 : ρ (.tmp 33) = .slice (some ⟨gl, 0, none⟩) zs.length (zs.length + 4) := hdep 9 33 (by kernel_rfl) (by kernel_rfl)
      simp [go_sem, t0, t1, t2, hfs]
      exact ⟨rfl, (CK1.out w' _ _ gc _ _ lc ((HDR.out.below hC).ldn.at) ((HDR.out.below hC).lst.at) (LR.out.below hC)).mono fun e w'' ⟨e1, q⟩ => ⟨_, e1, q, rfl⟩⟩
    | 11, _, ho, hf, hg, hfr, hdep =>
      simp only [gTA, gCZ, gCS, gSI] at ho
      subst ho
      refine ⟨fun _ => ?_, fun hw => absurd (show true = false from hw) (by decide)⟩
      have d0 : ρ (.tmp 34) = .int .i64 E1 := hdep 10 34 (by kernel_rfl) (by kernel_rfl)
      simp [go_sem, d0]
      exact ⟨Below.refl _ _, rfl⟩
    | n + 12, _, ho, _, _, _, _ => simp at ho
  · intro d i o ρ w' hm ho h0 hf hg hC hcs hfs hfr hdep
    exact absurd hm (by simp)
  · intro V w9 hC9 hS
    have e11 : V 11 = .int .i64 E1 := hS 11 (by decide) (by intro h; cases h)
    simp only [puts, e11]
    simp only [Act.put, List.setIfInBounds_toArray, List.set_cons_zero, List.set_cons_succ]
    clear hS e11
    have HD7 := hiddenN (HD6.out.below hC9)
    have PB7 := hiddenN (PB6.out.below hC9)
    have lm := cellN_later hC9 lm
    have LR7 := hiddenN (LR.out.below hC9)
    have GR7 := hiddenN (GR.out.below hC9)
    clear hC9 d0 d1 m0 m1 LR GR HDR HD6 PB6 CK1
    generalize w9 = W7 at *
    have LR := LR7
    have GR := GR7
    have d0 := PB7.out.cell (k := 0) rfl
    have d1 := PB7.out.cell (k := 1) rfl
    simp only [List.getElem_toArray, List.getElem_cons_zero, List.getElem_cons_succ] at d0 d1
    go_upto_region 7 with fail
    try dsimp only [List.append_eq, List.cons_append, List.nil_append]
    refine wp_region_gen [] (fun d i u z => match i with
        | 0 => z = .slice (some ⟨lb, 0, none⟩) (nL + 1) lc
        | 1 => z = .pointer (some ⟨w.heap.size + 1, 0, none⟩)
        | 2 => z = .slice ga nL ca
        | 3 => z = .int .i64 (nL : Int)
        | 4 => z = .slice (some ⟨lb, 0, none⟩) nL lc
        | 5 => z = .pointer (some ⟨w.heap.size + 1, 0, none⟩)
        | 6 => z = .slice ga nL ca
        | 7 => z = .bool true
        | 8 => z = .bool true
        | 9 => z = .slice (some ⟨lb, 0, none⟩) (nL + 1) lc
        | 10 => z = .pointer (some ⟨w.heap.size + 1, 0, none⟩)
        | 11 => z = .slice ga nL ca
        | 12 => z = .int .i64 (nL : Int)
        | 13 => z = .pointer (some ⟨lb, nL * 2, none⟩)
        | 14 => z = .pointer (some ⟨lb, nL * 2, none⟩)
        | 15 => z = .int .i64 (-77)
        | 16 => z = .bool true
        | 17 => z = .bool true
        | 18 => z = .bool true
        | _ => True) (fun _ u => Below W7.heap.size W7 u) (by kernel_rfl) (by kernel_rfl) (by kernel_rfl) ?_ ?_ ?_ ?_ ?_ ?_ (by kernel_rfl)
    · intro d i w v w' h hb
      match i, h with
      | 0, h => exact h
      | 1, h => exact h
      | 2, h => exact h
      | 3, h => exact h
      | 4, h => exact h
      | 5, h => exact h
      | 6, h => exact h
      | 7, h => exact h
      | 8, h => exact h
      | 9, h => exact h
      | 10, h => exact h
      | 11, h => exact h
      | 12, h => exact h
      | 13, h => exact h
      | 14, h => exact h
      | 15, h => exact h
      | 16, h => exact h
      | 17, h => exact h
      | 18, h => exact h
      | _ + 19, _ => trivial
    · intro d u u' h hb
      exact h.trans (hb.mono h.size)
    · exact Below.refl _ _
    · intro d i o ρ w' hm ho hf hg hC hcs hfs hfr hdep
      match i, hm, ho, hf, hg, hfr, hdep with
      | 0, _, ho, hf, hg, hfr, hdep =>
        simp only [gTA, gCZ, gSI] at ho
        subst ho
        refine ⟨fun _ => ?_, fun hw => absurd (show true = false from hw) (by decide)⟩
        have ts : ρ (.tmp 9) = .slice (some ⟨lb, 0, none⟩) (nL + 1) lc := hfr 9 (by kernel_rfl)
        simp [go_sem, ts]
        exact ⟨Below.refl _ _, rfl⟩
      | 1, _, ho, hf, hg, hfr, hdep =>
        simp only [gTA, gCZ, gCS, gSI] at ho
        subst ho
        refine ⟨fun _ => ?_, fun hw => absurd (show true = false from hw) (by decide)⟩
        have ts : ρ (.tmp 4) = .pointer (some ⟨w.heap.size + 1, 0, none⟩) := hfr 4 (by kernel_rfl)
        simp [go_sem, ts]
        exact ⟨Below.refl _ _, rfl⟩
      | 2, _, ho, hf, hg, hfr, hdep =>
        simp only [gTA, gCZ, gCS, gSI] at ho
        subst ho
        refine ⟨fun _ => ?_, fun hw => absurd (show true = false from hw) (by decide)⟩
        have k0 := cellN_later hC d0
        have d0 : ρ (.tmp 36) = .pointer (some ⟨w.heap.size + 1, 0, none⟩) := hdep 1 36 (by kernel_rfl) (by kernel_rfl)
        simp [go_sem, d0, k0]
        exact ⟨Below.refl _ _, rfl⟩
      | 3, _, ho, hf, hg, hfr, hdep =>
        simp only [gTA, gCZ, gCS, gSI] at ho
        subst ho
        refine ⟨fun _ => ?_, fun hw => absurd (show true = false from hw) (by decide)⟩
        have d0 : ρ (.tmp 37) = .slice ga nL ca := hdep 2 37 (by kernel_rfl) (by kernel_rfl)
        simp [go_sem, d0]
        exact ⟨Below.refl _ _, rfl⟩
      | 4, _, ho, hf, hg, hfr, hdep =>
        simp only [gTA, gCZ, gCS, gSI] at ho
        subst ho
        refine ⟨fun _ => ?_, fun hw => absurd (show true = false from hw) (by decide)⟩
        have d0 : ρ (.tmp 35) = .slice (some ⟨lb, 0, none⟩) (nL + 1) lc := hdep 0 35 (by kernel_rfl) (by kernel_rfl)
        have d1 : ρ (.tmp 38) = .int .i64 (nL : Int) := hdep 3 38 (by kernel_rfl) (by kernel_rfl)
        simp [go_sem, d0, d1, hcap2, hnn]
        exact ⟨Below.refl _ _, rfl⟩
      | 5, _, ho, hf, hg, hfr, hdep =>
        simp only [gTA, gCZ, gCS, gSI] at ho
        subst ho
        refine ⟨fun _ => ?_, fun hw => absurd (show true = false from hw) (by decide)⟩
        have ts : ρ (.tmp 4) = .pointer (some ⟨w.heap.size + 1, 0, none⟩) := hfr 4 (by kernel_rfl)
        simp [go_sem, ts]
        exact ⟨Below.refl _ _, rfl⟩
      | 6, _, ho, hf, hg, hfr, hdep =>
        simp only [gTA, gCZ, gCS, gSI] at ho
        subst ho
        refine ⟨fun _ => ?_, fun hw => absurd (show true = false from hw) (by decide)⟩
        have k0 := cellN_later hC d0
        have d0 : ρ (.tmp 40) = .pointer (some ⟨w.heap.size + 1, 0, none⟩) := hdep 5 40 (by kernel_rfl) (by kernel_rfl)
        simp [go_sem, d0, k0]
        exact ⟨Below.refl _ _, rfl⟩
      | 7, _, ho, hf, hg, hfr, hdep =>
        simp only [gTA, gCZ, gCS, gSI] at ho
        subst ho
        refine ⟨fun _ => ?_, fun hw => absurd (show true = false from hw) (by decide)⟩
        have t0 : ρ (.tmp 39) = .slice (some ⟨lb, 0, none⟩) nL lc := hdep 4 39 (by kernel_rfl) (by kernel_rfl)
        have t1 : ρ (.tmp 41) = .slice ga nL ca := hdep 6 41 (by kernel_rfl) (by kernel_rfl)
        simp [go_sem, t0, t1, hfs]
        exact ⟨rfl, (SR.out w' _ _ _ _ (LR.out.below hC) (GR.out.below hC)).mono fun e w'' ⟨e1, q⟩ => ⟨_, e1, q, rfl⟩⟩
      | 8, _, ho, hf, hg, hfr, hdep =>
        simp only [gTA, gCZ, gCS, gSI] at ho
        subst ho
        refine ⟨fun _ => ?_, fun hw => absurd (show true = false from hw) (by decide)⟩
        have d0 : ρ (.tmp 42) = .bool true := hdep 7 42 (by kernel_rfl) (by kernel_rfl)
        simp [go_sem, d0]
        exact ⟨Below.refl _ _, rfl⟩
      | 9, _, ho, hf, hg, hfr, hdep =>
        simp only [gTA, gCZ, gCS, gSI] at ho
        subst ho
        have gd : ρ (.tmp 43) = .bool true := hdep 8 43 (by kernel_rfl) (by kernel_rfl)
        refine ⟨fun _ => ?_, fun hw => absurd (show (match ρ (.tmp 43) with | .bool c => c == true | _ => false) = false from hw) (by rw [gd]; decide)⟩
        clear gd
        have ts : ρ (.tmp 9) = .slice (some ⟨lb, 0, none⟩) (nL + 1) lc := hfr 9 (by kernel_rfl)
        simp [go_sem, ts]
        exact ⟨Below.refl _ _, rfl⟩
      | 10, _, ho, hf, hg, hfr, hdep =>
        simp only [gTA, gCZ, gCS, gSI] at ho
        subst ho
        have gd : ρ (.tmp 43) = .bool true := hdep 8 43 (by kernel_rfl) (by kernel_rfl)
        refine ⟨fun _ => ?_, fun hw => absurd (show (match ρ (.tmp 43) with | .bool c => c == true | _ => false) = false from hw) (by rw [gd]; decide)⟩
        clear gd
        have ts : ρ (.tmp 4) = .pointer (some ⟨w.heap.size + 1, 0, none⟩) := hfr 4 (by kernel_rfl)
        simp [go_sem, ts]
        exact ⟨Below.refl _ _, rfl⟩
      | 11, _, ho, hf, hg, hfr, hdep =>
        simp only [gTA, gCZ, gCS, gSI] at ho
        subst ho
        have gd : ρ (.tmp 43) = .bool true := hdep 8 43 (by kernel_rfl) (by kernel_rfl)
        refine ⟨fun _ => ?_, fun hw => absurd (show (match ρ (.tmp 43) with | .bool c => c == true | _ => false) = false from hw) (by rw [gd]; decide)⟩
        clear gd
        have k0 := cellN_later hC d0
        have d0 : ρ (.tmp 45) = .pointer (some ⟨w.heap.size + 1, 0, none⟩) := hdep 10 45 (by kernel_rfl) (by kernel_rfl)
        simp [go_sem, d0, k0]
        exact ⟨Below.refl _ _, rfl⟩
      | 12, _, ho, hf, hg, hfr, hdep =>
        simp only [gTA, gCZ, gCS, gSI] at ho
        subst ho
        have gd : ρ (.tmp 43) = .bool true := hdep 8 43 (by kernel_rfl) (by kernel_rfl)
        refine ⟨fun _ => ?_, fun hw => absurd (show (match ρ (.tmp 43) with | .bool c => c == true | _ => false) = false from hw) (by rw [gd]; decide)⟩
        clear gd
        have d0 : ρ (.tmp 46) = .slice ga nL ca := hdep 11 46 (by kernel_rfl) (by kernel_rfl)
        simp [go_sem, d0]
        exact ⟨Below.refl _ _, rfl⟩
      | 13, _, ho, hf, hg, hfr, hdep =>
        simp only [gTA, gCZ, gCS, gSI] at ho
        subst ho
        have gd : ρ (.tmp 43) = .bool true := hdep 8 43 (by kernel_rfl) (by kernel_rfl)
        refine ⟨fun _ => ?_, fun hw => absurd (show (match ρ (.tmp 43) with | .bool c => c == true | _ => false) = false from hw) (by rw [gd]; decide)⟩
        clear gd
        have d0 : ρ (.tmp 44) = .slice (some ⟨lb, 0, none⟩) (nL + 1) lc := hdep 9 44 (by kernel_rfl) (by kernel_rfl)
        have d1 : ρ (.tmp 47) = .int .i64 (nL : Int) := hdep 12 47 (by kernel_rfl) (by kernel_rfl)
        simp [go_sem, d0, d1, hix]
        exact ⟨Below.refl _ _, rfl⟩
      | 14, _, ho, hf, hg, hfr, hdep =>
        simp only [gTA, gCZ, gCS, gSI] at ho
        subst ho
        have gd : ρ (.tmp 43) = .bool true := hdep 8 43 (by kernel_rfl) (by kernel_rfl)
        refine ⟨fun _ => ?_, fun hw => absurd (show (match ρ (.tmp 43) with | .bool c => c == true | _ => false) = false from hw) (by rw [gd]; decide)⟩
        clear gd
        have d0 : ρ (.tmp 48) = .pointer (some ⟨lb, nL * 2, none⟩) := hdep 13 48 (by kernel_rfl) (by kernel_rfl)
        simp [go_sem, d0]
        exact ⟨Below.refl _ _, rfl⟩
      | 15, _, ho, hf, hg, hfr, hdep =>
        simp only [gTA, gCZ, gCS, gSI] at ho
        subst ho
        have gd : ρ (.tmp 43) = .bool true := hdep 8 43 (by kernel_rfl) (by kernel_rfl)
        refine ⟨fun _ => ?_, fun hw => absurd (show (match ρ (.tmp 43) with | .bool c => c == true | _ => false) = false from hw) (by rw [gd]; decide)⟩
        clear gd
        have k0 := cellN_later hC lm
        have d0 : ρ (.tmp 49) = .pointer (some ⟨lb, nL * 2, none⟩) := hdep 14 49 (by kernel_rfl) (by kernel_rfl)
        simp [go_sem, d0, k0]
        exact ⟨Below.refl _ _, rfl⟩
      | 16, _, ho, hf, hg, hfr, hdep =>
        simp only [gTA, gCZ, gCS, gSI] at ho
        subst ho
        have gd : ρ (.tmp 43) = .bool true := hdep 8 43 (by kernel_rfl) (by kernel_rfl)
        refine ⟨fun _ => ?_, fun hw => absurd (show (match ρ (.tmp 43) with | .bool c => c == true | _ => false) = false from hw) (by rw [gd]; decide)⟩
        clear gd
        have d0 : ρ (.tmp 50) = .int .i64 (-77) := hdep 15 50 (by kernel_rfl) (by kernel_rfl)
        simp [go_sem, d0, hcs]
        exact ⟨Below.refl _ _, rfl⟩
      | 17, _, ho, hf, hg, hfr, hdep =>
        simp only [gTA, gCZ, gCS, gSI] at ho
        subst ho
        refine ⟨fun _ => ?_, fun hw => absurd (show true = false from hw) (by decide)⟩
        have d0 : ρ (.tmp 43) = .bool true := hdep 8 43 (by kernel_rfl) (by kernel_rfl)
        have d1 : ρ (.tmp 51) = .bool true := hdep 16 51 (by kernel_rfl) (by kernel_rfl)
        simp [go_sem, d0, d1, hcs]
        exact ⟨Below.refl _ _, rfl⟩
      | 18, _, ho, hf, hg, hfr, hdep =>
        simp only [gTA, gCZ, gCS, gSI] at ho
        subst ho
        refine ⟨fun _ => ?_, fun hw => absurd (show true = false from hw) (by decide)⟩
        have d0 : ρ (.tmp 52) = .bool true := hdep 17 52 (by kernel_rfl) (by kernel_rfl)
        simp [go_sem, d0]
        exact ⟨Below.refl _ _, rfl⟩
      | n + 19, _, ho, _, _, _, _ => simp at ho
    · intro d i o ρ w' hm ho h0 hf hg hC hcs hfs hfr hdep
      exact absurd hm (by simp)
    · intro V2 w8 hC8 hS
      have e18 : V2 18 = .bool true := hS 18 (by decide) (by intro h; cases h)
      simp only [puts, e18]
      simp only [Act.put, List.setIfInBounds_toArray, List.set_cons_zero, List.set_cons_succ]
      clear hS e18
      have HD8 := hiddenN (HD7.out.below hC8)
      have PB8 := hiddenN (PB7.out.below hC8)
      clear hC8 d0 d1 lm LR GR LR7 GR7 HD7 PB7
      have z0 := HD8.out.net.cell (k := 0) rfl; have z1 := HD8.out.net.cell (k := 1) rfl; simp only [List.getElem_toArray, List.getElem_cons_zero, List.getElem_cons_succ] at z0 z1
      go_wp2_with (first
        | (go_at_call 11; (with_reducible refine (AW.out _).mono ?_); rintro e VV ⟨rfl, q2⟩; have HDA := hiddenN (HD8.out.below q2); have PBA := hiddenN (PB8.out.below q2); have z0 := HDA.out.net.cell (k := 0) rfl; have z1 := HDA.out.net.cell (k := 1) rfl; simp only [List.getElem_toArray, List.getElem_cons_zero, List.getElem_cons_succ] at z0 z1; have p0 := PBA.out.cell (k := 0) rfl; have p1 := PBA.out.cell (k := 1) rfl; simp only [List.getElem_toArray, List.getElem_cons_zero, List.getElem_cons_succ] at p0 p1; clear q2)
        | (go_at_call 19; (with_reducible refine (RC.out _ HDA.out.bel).mono ?_); rintro e VC ⟨rfl, q2⟩; have HDC := hiddenN (HDA.out.below q2); have z0 := HDC.out.net.cell (k := 0) rfl; have z1 := HDC.out.net.cell (k := 1) rfl; simp only [List.getElem_toArray, List.getElem_cons_zero, List.getElem_cons_succ] at z0 z1; have m0 := HDC.out.box.cell (k := 0) rfl; have m1 := HDC.out.box.cell (k := 1) rfl; simp only [List.getElem_toArray, List.getElem_cons_zero, List.getElem_cons_succ] at m0 m1; have KN := hiddenN (keptNet_any n g gc a c VC HDC.out.ldn (HA.out.below HDC.out.bel)); clear q2)
        | (go_at_call 12; (with_reducible refine KN.out.mono ?_); rintro e VK ⟨rfl, q2⟩; have HDK := hiddenN (HDC.out.below q2); have KP := hiddenN (kept_any gl a1 zs zs.length cap1 _ VK HDK.out.lst (H1.out.below HDK.out.bel)); clear q2)
        | (go_at_call 13; (with_reducible refine KP.out.mono ?_); rintro e VL ⟨m8, rfl, rfl⟩))
      go_ret
      exact ⟨by first | rfl | simp, drewB HDK.out.bel _⟩
end Go.Proofs.YtimioiaoefhabaaGreat

/- Texts of one chain, laid one behind the other. -/
import Derived.Test.YtmeogapffdgjlabPartLoopsNames24
import Derived.Test.YtmeogapffdgjlabPartLoopsNames15
import Derived.Test.YtmeogapffdgjlabPartLoopsNames16
import Derived.Test.YtmeogapffdgjlabPartLoopsNames18
import Derived.Test.YtmeogapffdgjlabPartLoopsNames13
namespace Go.Proofs.Ytmeogapffdgjlab
open Go.ChangeShapes Go.WideShapes Go.ChangeAt Go.RowKit
theorem fold_step {B p q cc c2 : Nat} {F1 : Nat → Prop} {w WA W7 : World} {V : List Lp} {d d2 : Option Addr} {ms ms2 : List Int} (hg : GrwQ w.heap.size WA d ms2 W7 d2 c2) (hO : CapR w.heap.size WA d cc ms) (hF : ∀ k, F1 k → k < w.heap.size) (hK : BkM B F1 WA p V q) (hfr : Fr B w WA) : BkM B F1 W7 p V q ∧ Fr B w W7 := by
  constructor
  · refine hK.keep fun j hj => hg.keep j ?_ ?_
    · rcases hj with h | h
      · exact h.2.lt
      · exact h.2.lt
    · rintro y hy rfl
      rcases hj with h | h
      · exact (hO.int y hy).off h.2
      · have := hF _ h.1; have := (hO.lt y hy).1; omega
  · refine ⟨hg.os.trans hfr.os, hg.tape.trans hfr.tape, hg.output.trans hfr.output, Nat.le_trans hfr.size hg.size, fun k hk hn => ?_⟩
    rw [hg.keep k (Nat.lt_of_lt_of_le hk hfr.size) (fun y hy e => by have := (hO.lt y hy).1; omega)]
    exact hfr.keep k hk hn
theorem Cell.of_at {w : World} {b o k : Nat} {ns : List Int} {x : Int} (h : At w (some ⟨b, o, none⟩) ns) (hk : ns[k]? = some x) : w.cell? ⟨b, o + k, none⟩ = some (.int .i64 x) := by
  have hl := (List.getElem?_eq_some_iff.1 hk).1
  rcases h.lie with h0 | ⟨b', o', e, hc⟩
  · rw [h0] at hl; simp at hl
  · cases e
    rw [hc k hl]
    have := nth_some hl
    rw [hk] at this
    rw [Option.some.inj this]
def FldE (B : Nat) (F : Nat → Prop) (p : Nat) (V : List Lp) (q wd : Nat) (l : List Lp) (w : World) (e : Ending) (w' : World) : Prop := ∃ (d : Option Addr) (c : Nat) (ns : List Int) (T : List Lp) (q' : Nat), e = .returned (.slice d ns.length c) ∧ CapR w.heap.size w' d c ns ∧ RpZ (V ++ T) ns (pasZ wd l) ∧ BkM B F w' p (V ++ T) q' ∧ q' + 2 * (pasZ wd l).length ≤ q + 2 * l.length ∧ Fr B w w'
set_option maxRecDepth 100000 in
set_option maxHeartbeats 16000000 in
theorem foldQ_any (B : Nat) (F : Nat → Prop) (p : Nat) (V : List Lp) (q wd : Nat) (l : List Lp) (ns : List Int) (a : Option Addr) (c : Nat) (w : World) (hK : BkM B F w p V q) (hR : RpZ V ns l) (hA : At w a ns) (hI : ∀ y, a = some y → F y.block ∧ IntB w y.block) (h1 : 1 ≤ wd) (h2 : wd ≤ 16) (hq : q + 2 * l.length ≤ 1000000) (hc : ns.length ≤ c) (hBw : B ≤ w.heap.size) :
    Calls Try.prog 17 #[.pointer (some ⟨p, 0, none⟩), .int .i64 (wd : Int), .slice a ns.length c] w (FldE B F p V q wd l w) := by
  obtain ⟨RE, hRE⟩ : ∃ Q : Ending → World → Prop, FldE B F p V q wd l w = Q := ⟨_, rfl⟩
  rw [hRE]
  have HRE := hiddenN hRE
  have HA := hiddenN hA
  have HI := hiddenN hI
  have HRP := hiddenN hR
  have HQ := hiddenN hq
  obtain ⟨F1, hF1⟩ : ∃ G : Nat → Prop, (fun k => F k ∧ k < w.heap.size) = G := ⟨_, rfl⟩
  have HF1 : Hid (∀ k, F1 k ↔ F k ∧ k < w.heap.size) := fun k => by rw [← hF1]
  have K0 := hiddenN (hK.mono (G := F1) fun k h1 h2 => (HF1.out k).2 ⟨h1, h2⟩)
  obtain ⟨L, hL⟩ : ∃ L, ns.length = L := ⟨_, rfl⟩
  have HL := hiddenN hL
  have HLL : Hid (l.length = L) := by show _ = _; rw [← hR.len, hL]
  have hLm : L ≤ 1000000 := by have := HLL.out; omega
  rw [hL] at hc ⊢
  clear hRE hA hI hR hq hF1 hK hL
  go_enter Try.func17, Try.ntmps17
  go_upto_region 3 with fail
  go_loopg [7, 8] (L + 1) (fun gk fv av wr => ∃ (t : Nat) (out : List Lp) (ms : List Int) (T : List Lp) (qk : Nat) (d : Option Addr) (cc mn : Nat), gk = L + 1 - t ∧ t ≤ L ∧ ms.length = mn ∧ fv = .slice d mn cc ∧ av = .int .i64 (t : Int) ∧ CapR w.heap.size wr d cc ms ∧ RpZ (V ++ T) ms out ∧ out ++ pasZ wd (l.drop t) = pasZ wd l ∧ BkM B F1 wr p (V ++ T) qk ∧ qk + 2 * out.length + 2 * (L - t) ≤ q + 2 * L ∧ Fr B w wr)
  case atStart => exact ⟨0, [], [], [], q, none, 0, 0, rfl, Nat.zero_le _, rfl, rfl, rfl, CapR.nil _ _, trivial, rfl, by rw [List.append_nil]; exact K0.out, by simp, Fr.refl _ _⟩
  case round =>
    clear K0
    obtain ⟨t, out, ms, T, qk, d, cc, mn, hgk, htL, hmn, rfl, rfl, hC, hR, hout, hK, hqk, hfr⟩ := hrel
    have HC := hiddenN hC
    have HR := hiddenN hR
    have HO := hiddenN hout
    have HK := hiddenN hK
    have HQK := hiddenN hqk
    have HFR := hiddenN hfr
    have HGK := hiddenN hgk
    have HMN := hiddenN hmn
    have hml : out.length = mn := by rw [← hmn]; exact hR.len.symm
    have hmm : mn ≤ 1000000 := by have := HQ.out; have := HLL.out; omega
    have HML := hiddenN hml
    clear hC hR hout hK hqk hfr hgk hmn hml
    by_cases hlt : t < L
    · have hki : (t : Int) < (L : Int) := by omega
      have htm : (t : Int) ≤ 1000000 := by omega
      rcases HA.out.lie with h0 | ⟨b, o, rfl, -⟩
      · have := HL.out; rw [h0] at this; simp at this; omega
      have hat : Hid (At wr (some ⟨b, o, none⟩) ns ∧ F1 b ∧ IntB wr b ∧ b < w.heap.size) := by
        obtain ⟨i1, i2⟩ := HI.out _ rfl
        have kp := HFR.out.keep b i2.lt (.inr i2.off)
        exact ⟨HA.out.keepQ fun x hx => by cases hx; exact kp, (HF1.out b).2 ⟨i1, i2.lt⟩, i2.keep kp, i2.lt⟩
      have htc : t ≤ c := by omega
      have htci : (t : Int) ≤ (c : Int) := by omega
      have hLc : (L : Int) ≤ (c : Int) := by omega
      have GR := hiddenN (groups_any wd (ns.drop t) (some ⟨b, o + t, none⟩) (c - t) wr (hat.out.1.drop t) (fun x hx => by cases hx; exact hat.out.2.2.1.lt) h1 h2 (by rw [List.length_drop]; have := HL.out; omega))
      rw [List.length_drop, HL.out, alk_rp HK.out.one ((HRP.out.more T).drop t)] at GR
      obtain ⟨gp, hgp⟩ : ∃ gp, alkZ wd (l.drop t) / wd = gp := ⟨_, rfl⟩
      rw [hgp] at GR
      have HGP : Hid (grpZ wd (l.drop t) = gp) := hgp
      clear hgp
      obtain ⟨x, hx⟩ : ∃ x, l[t]? = some x := ⟨_, List.getElem?_eq_getElem (by rw [HLL.out]; exact hlt)⟩
      have HDR : Hid (l.drop t = x :: l.drop (t + 1)) := by
        obtain ⟨e1, e2⟩ := List.getElem?_eq_some_iff.1 hx
        show _ = _
        rw [List.drop_eq_getElem_cons e1, e2]
      obtain ⟨kx, hkx, hvx⟩ := HRP.out.get hx
      have HVX := hiddenN hvx
      have c0 := (Cell.of_at hat.out.1 hkx)
      clear hx hkx hvx
      go_upto_region 5 with (go_at_call 20; (with_reducible refine GR.out.mono ?_); rintro e w1 ⟨rfl, hb1⟩; have B1 := hiddenN hb1; clear hb1)
      have c1 := (B1.out.cell (block_lt_of_cell c0)).trans c0
      have HC1 := hiddenN (HC.out.later B1.out)
      have HK1 := hiddenN (HK.out.later B1.out)
      have FR1 := hiddenN (HFR.out.trans (Fr.of_below B1.out))
      have hw1 : w.heap.size ≤ w1.heap.size := FR1.out.size
      have HFB : Hid (∀ k, F1 k → k < w.heap.size) := fun k h => ((HF1.out k).1 h).2
      have hat1 : Hid (At w1 (some ⟨b, o, none⟩) ns ∧ F1 b ∧ IntB w1 b ∧ b < w.heap.size) := by
        have kp := B1.out.block b hat.out.2.2.1.lt
        exact ⟨hat.out.1.keepQ fun x hx => by cases hx; exact kp, hat.out.2.1, hat.out.2.2.1.keep kp, hat.out.2.2.2⟩
      clear GR HC HK HFR c0 hat
      by_cases hg2 : gp < 2
      · have hgi : (gp : Int) < 2 := by omega
        have bA := (Below.refl w1.heap.size w1).alloc (Nat.le_refl _) (.cells #[.int .i64 (kx : Int)] 3)
        have XA := hiddenN (blkA_new 3 w1 #[.int .i64 (kx : Int)])
        have u0 := XA.out.cell (k := 0) rfl
        simp only [List.getElem_toArray, List.getElem_cons_zero] at u0
        have OA := hiddenN (HC1.out.later bA)
        have KA := hiddenN (HK1.out.later bA)
        have FRA := hiddenN (FR1.out.trans (Fr.of_below bA))
        have hBA : w.heap.size ≤ (w1.alloc (.cells #[.int .i64 (kx : Int)] 3)).heap.size := FRA.out.size
        clear bA HC1 HK1 FR1 B1
        go_upto_region 7 with (at_builtin; refine wpList_appNq rfl _ _ rfl w.heap.size d cc ms mn HMN.out rfl OA.out w1.heap.size (kx : Int) rfl u0 (by omega) hBA ?_; intro d2 c2 W7 hg2; have HG := hiddenN hg2; clear hg2)
        have HST := hiddenN (fold_step HG.out OA.out HFB.out KA.out FRA.out)
        have HR2 : Hid (RpZ (V ++ T) (ms ++ [(kx : Int)]) (out ++ [x])) := HR.out.append ⟨⟨kx, rfl, get_left HVX.out⟩, trivial⟩
        have HO2 : Hid ((out ++ [x]) ++ pasZ wd (l.drop (t + 1)) = pasZ wd l) := by
          show _ = _
          rw [← HO.out, HDR.out, pas_cons h1, if_pos (by rw [← HDR.out, HGP.out]; exact hg2)]
          simp
        clear c1 u0
        go_wp2
        go_roundg (L + 1 - (t + 1))
        case measure => have := HGK.out; omega
        case rel => exact ⟨t + 1, out ++ [x], ms ++ [(kx : Int)], T, qk, d2, c2, mn + 1, rfl, by omega, by rw [List.length_append, HMN.out]; rfl, rfl, by go_num, HG.out.own, HR2.out, HO2.out, HST.out.1, by have := HQK.out; rw [List.length_append, List.length_singleton]; omega, HST.out.2⟩
      · have hgi : ¬ ((gp : Int) < 2) := by omega
        have hgl : gp * wd ≤ L - t := by
          have := grp_le (w := wd) (l := l.drop t) (by rw [HGP.out]; omega)
          rw [HGP.out, List.length_drop, HLL.out] at this
          exact this
        have hg2w : 2 * wd ≤ gp * wd := Nat.mul_le_mul_right _ (by omega)
        have hggw : gp ≤ gp * wd := Nat.le_mul_of_pos_right _ (by omega)
        obtain ⟨gw, hgw⟩ : ∃ gw, gp * wd = gw := ⟨_, rfl⟩
        rw [hgw] at hgl hg2w hggw
        have hgwI : IntKind.i64.wrap ((gp : Int) * (wd : Int)) = (gw : Int) := by rw [← Int.natCast_mul, hgw, IntKind.wrap_i64]; omega
        have htgI : IntKind.i64.wrap ((t : Int) + (gw : Int)) = ((t + gw : Nat) : Int) := by rw [IntKind.wrap_i64]; omega
        have htwI : IntKind.i64.wrap ((t : Int) + (wd : Int)) = ((t + wd : Nat) : Int) := by rw [IntKind.wrap_i64]; omega
        have htwL : ((t + wd : Nat) : Int) ≤ (c : Int) := by omega
        have HGW := hiddenN hgw
        clear hgw
        have LC := hiddenN (loopQ_any B F1 p (V ++ T) qk (qk + wd + 1) (gp : Int) 0 ((l.drop t).take wd) ((ns.drop t).take wd) (some ⟨b, o + t, none⟩) (c - t) w1 HK1.out (by unfold InM; omega) (by unfold InM; omega) (((HRP.out.more T).drop t).take wd) ((hat1.out.1.drop t).take wd) (fun y hy => by cases hy; exact ⟨hat1.out.2.1, hat1.out.2.2.1⟩) (by rw [List.length_take, List.length_drop, HL.out]; omega) (by have := HQK.out; have := HQ.out; have := HLL.out; omega) (Nat.le_trans hBw hw1))
        rw [List.length_take, List.length_drop, HL.out, show min wd (L - t) = wd by omega] at LC
        clear HK1
        go_upto_region 9 with (first | (go_at_call 19; (with_reducible refine LC.out.mono ?_); rintro e w2 ⟨i2, T2, rfl, hv2, hk2, hf2⟩; have HV2 := hiddenN hv2; have FR2 := hiddenN (FR1.out.trans hf2); have bA := (Below.refl w2.heap.size w2).alloc (Nat.le_refl _) (.cells #[.int .i64 (i2 : Int)] 3); have XA := hiddenN (blkA_new 3 w2 #[.int .i64 (i2 : Int)]); have u0 := XA.out.cell (k := 0) rfl; simp only [List.getElem_toArray, List.getElem_cons_zero] at u0; have OA := hiddenN ((HC1.out.keep fun y hy => hf2.keep _ (HC1.out.lt y hy).2 (.inr (HC1.out.int y hy).off)).later bA); have KA := hiddenN (hk2.later bA); have FRA := hiddenN (FR2.out.trans (Fr.of_below bA)); have hBA : w.heap.size ≤ (w2.alloc (.cells #[.int .i64 (i2 : Int)] 3)).heap.size := FRA.out.size; clear hv2 hk2 hf2 bA HC1 FR1 FR2 c1) | (at_builtin; refine wpList_appNq rfl _ _ rfl w.heap.size d cc ms mn HMN.out rfl OA.out w2.heap.size (i2 : Int) rfl u0 (by omega) hBA ?_; intro d2 c2 W7 hg9; have HG := hiddenN hg9; clear hg9))
        have HST := hiddenN (fold_step HG.out OA.out HFB.out KA.out FRA.out)
        have HR2 : Hid (RpZ (V ++ (T ++ T2)) (ms ++ [(i2 : Int)]) (out ++ [⟨(gp : Int), 0, (l.drop t).take wd⟩])) := by
          show RpZ _ _ _
          rw [← List.append_assoc]
          exact (HR.out.more T2).append ⟨⟨i2, rfl, HV2.out⟩, trivial⟩
        have HO2 : Hid ((out ++ [⟨(gp : Int), 0, (l.drop t).take wd⟩]) ++ pasZ wd (l.drop (t + gw)) = pasZ wd l) := by
          show _ = _
          have e := pas_cons h1 x (l.drop (t + 1))
          rw [← HDR.out, HGP.out, if_neg hg2, HGW.out, List.drop_drop] at e
          rw [← HO.out, e]
          simp
        have HK2 : Hid (BkM B F1 W7 p (V ++ (T ++ T2)) (qk + wd + 1)) := by
          show BkM _ _ _ _ _ _
          rw [← List.append_assoc]
          exact HST.out.1
        clear u0
        go_wp2
        go_roundg (L + 1 - (t + gw))
        case measure => have := HGK.out; omega
        case rel => exact ⟨t + gw, out ++ [⟨(gp : Int), 0, (l.drop t).take wd⟩], ms ++ [(i2 : Int)], T ++ T2, qk + wd + 1, d2, c2, mn + 1, rfl, by omega, by rw [List.length_append, HMN.out]; rfl, rfl, by go_num, HG.out.own, HR2.out, HO2.out, HK2.out, by have := HQK.out; rw [List.length_append, List.length_singleton]; omega, HST.out.2⟩
    · have hki : ¬ ((t : Int) < (L : Int)) := by omega
      have htE : t = L := by omega
      go_wp2
      rw [← HRE.out]
      have e1 : pasZ wd l = out := by rw [← HO.out, List.drop_eq_nil_of_le (by rw [HLL.out]; omega), pas_nil, List.append_nil]
      exact ⟨d, cc, ms, T, qk, by rw [HMN.out], HC.out, by rw [e1]; exact HR.out, HK.out.mono fun k h _ => ((HF1.out k).1 h).1, by rw [e1]; have := HQK.out; have := HLL.out; omega, HFR.out⟩
theorem BkM.get {B : Nat} {F : Nat → Prop} {w : World} {p : Nat} {V : List Lp} {q : Nat} (h : BkM B F w p V q) : ∃ kd kc, w.cell? ⟨p, 2, none⟩ = some (.slice kd V.length kc) ∧ ∀ (i : Nat) x, V[i]? = some x → ∃ (g : Nat) (s : Lv) (bs : List Int), kd = some ⟨g, 0, none⟩ ∧ w.cell? ⟨g, i * 3, none⟩ = some (.int .i64 s.t) ∧ w.cell? ⟨g, i * 3 + 1, none⟩ = some (.int .i64 s.n) ∧ w.cell? ⟨g, i * 3 + 2, none⟩ = some (.slice s.a s.k s.c) ∧ x.times = s.t ∧ x.node = s.n ∧ s.k = x.body.length ∧ RpZ V bs x.body ∧ At w s.a bs ∧ ∀ y, s.a = some y → y.block < w.heap.size := by
  obtain ⟨R, Ps, LK, Kb, S, m1, m2, kd, kc, hP, hW, -, -⟩ := h
  have hl : S.length = V.length := by rw [hW.len, hP.vlen]
  refine ⟨kd, kc, ?_, fun i x hx => ?_⟩
  · have := hW.blk.cell (k := 2) rfl
    simp only [List.getElem_toArray, List.getElem_cons_zero, List.getElem_cons_succ] at this
    rw [hl] at this
    exact this
  · have hi : i < S.length := by rw [hl]; exact (List.getElem?_eq_some_iff.1 hx).1
    obtain ⟨bs, k1, k2, k3, k4⟩ := hW.bod i S[i] (List.getElem?_eq_getElem hi)
    obtain ⟨l', v1, v2⟩ := hP.val _ _ _ _ k1
    rw [hx] at v1
    have e := Option.some.inj v1
    obtain ⟨g, hg⟩ := hW.own.there (by intro e; rw [e] at hi; simp at hi)
    have hO := hW.own
    rw [hg] at hO
    have en : nthZ S i = S[i] := by unfold nthZ; rw [List.getD_eq_getElem?_getD, List.getElem?_eq_getElem hi]; rfl
    have c0 := hO.cell hi (j := 0) (by decide)
    have c1 := hO.cell hi (j := 1) (by decide)
    have c2 := hO.cell hi (j := 2) (by decide)
    rw [en] at c0 c1 c2
    rw [e]
    exact ⟨g, S[i], bs, hg, c0, c1, c2, rfl, rfl, by rw [k2]; exact v2.len, v2, k3, fun y hy => (k4 y hy).2.lt⟩
/-- What is written: a nest in rows of its own. -/
def WrtZ (B : Nat) (w : World) (d : Option Addr) (c : Nat) (l : List Lp) : Prop := ∃ S Rs, CapZ B w d c S ∧ MchZ (fun k => B ≤ k ∧ TyZ w k ∧ ∀ y, d = some y → y.block ≠ k) false w S l ∧ RelR l S Rs ∧ FamR B w d Rs
theorem WrtZ.later {B : Nat} {w w' : World} {d : Option Addr} {c : Nat} {l : List Lp} (h : WrtZ B w d c l) (hb : Below w.heap.size w w') : WrtZ B w' d c l := by
  obtain ⟨S, Rs, h1, h2, h3, h4⟩ := h
  exact ⟨S, Rs, h1.later hb, MchZ.mono (fun k hk => ⟨hk.1, hk.2.1.keep (hb.block k hk.2.1.lt), hk.2.2⟩) (MchZ.keep (fun k hk => hb.block k hk.2.1.lt) h2), h3, h4.later hb⟩
theorem FamR.mono {B B' : Nat} {w : World} {d : Option Addr} {Rs : List RwL} (h : FamR B w d Rs) (hB : B' ≤ B) : FamR B' w d Rs := ⟨fun r hr => capZ_mono (h.own r hr) hB, h.off, h.pair⟩
theorem WrtZ.mono {B B' : Nat} {w : World} {d : Option Addr} {c : Nat} {l : List Lp} (h : WrtZ B w d c l) (hB : B' ≤ B) : WrtZ B' w d c l := by
  obtain ⟨S, Rs, h1, h2, h3, h4⟩ := h
  exact ⟨S, Rs, capZ_mono h1 hB, MchZ.mono (fun k hk => ⟨Nat.le_trans hB hk.1, hk.2⟩) h2, h3, h4.mono hB⟩
def WrV (B L : Nat) (l : List Lp) (w : World) (v : Value) : Prop := ∃ d c, v = .slice d L c ∧ WrtZ B w d c l
theorem WrV.later {B L : Nat} {l : List Lp} {w w' : World} {v : Value} (h : WrV B L l w v) (hb : Below w.heap.size w w') : WrV B L l w' v := by
  obtain ⟨d, c, e, h⟩ := h
  exact ⟨d, c, e, h.later hb⟩
def WrB (B L : Nat) (l : List Lp) (tx nx : Int) (w : World) (v : Value) : Prop := ∃ d c gz, WrtZ B w d c l ∧ v = .slice (some ⟨gz, 0, none⟩) 1 1 ∧ w.cell? ⟨gz, 0, none⟩ = some (.int .i64 tx) ∧ w.cell? ⟨gz, 1, none⟩ = some (.int .i64 nx) ∧ w.cell? ⟨gz, 2, none⟩ = some (.slice d L c)
theorem WrB.later {B L : Nat} {l : List Lp} {tx nx : Int} {w w' : World} {v : Value} (h : WrB B L l tx nx w v) (hb : Below w.heap.size w w') : WrB B L l tx nx w' v := by
  obtain ⟨d, c, gz, h, e, z0, z1, z2⟩ := h
  exact ⟨d, c, gz, h.later hb, e, cellN_later hb z0, cellN_later hb z1, cellN_later hb z2⟩
theorem WrB.new {B L : Nat} {l : List Lp} {tx nx : Int} {w : World} {d : Option Addr} {c : Nat} (h : WrtZ B w d c l) : WrB B L l tx nx (w.alloc (.cells #[.int .i64 tx, .int .i64 nx, .slice d L c] 29)) (.slice (some ⟨w.heap.size, 0, none⟩) 1 1) := by
  have X := blkA_new 29 w #[.int .i64 tx, .int .i64 nx, .slice d L c]
  have y0 := X.cell (k := 0) rfl
  have y1 := X.cell (k := 1) rfl
  have y2 := X.cell (k := 2) rfl
  simp only [List.getElem_toArray, List.getElem_cons_zero, List.getElem_cons_succ] at y0 y1 y2
  exact ⟨d, c, w.heap.size, h.later ((Below.refl _ _).alloc (Nat.le_refl _) _), rfl, y0, y1, y2⟩
def WrtE (l : List Lp) (w : World) (e : Ending) (w' : World) : Prop := ∃ d c, e = .returned (.slice d l.length c) ∧ WrtZ w.heap.size w' d c l ∧ Below w.heap.size w w'
def WrtOK (l : List Lp) : Prop := ∀ (B : Nat) (F : Nat → Prop) (p : Nat) (V : List Lp) (q : Nat) (ns : List Int) (a : Option Addr) (c : Nat) (w : World), BkM B F w p V q → RpZ V ns l → At w a ns → (∀ y, a = some y → y.block < w.heap.size) → sizZ l ≤ 1000000 → V.length ≤ 1000000 → Calls Try.prog 14 #[.pointer (some ⟨p, 0, none⟩), .slice a l.length c] w (WrtE l w)
set_option maxRecDepth 100000 in
set_option maxHeartbeats 16000000 in
theorem written_any (l : List Lp) : WrtOK l := by
  refine nest_ind (fun l ih => ?_) l
  intro B F p V q ns a c w hK hR hA ha hs hVm
  obtain ⟨RE, hRE⟩ : ∃ Q : Ending → World → Prop, WrtE l w = Q := ⟨_, rfl⟩
  rw [hRE]
  have HRE := hiddenN hRE
  have IH := hiddenN ih
  have HSZ := hiddenN hs
  have HK := hiddenN hK
  have HRP := hiddenN hR
  have HA := hiddenN hA
  have HAL := hiddenN ha
  obtain ⟨kd, kc, hp2, hgt⟩ := hK.get
  have HGT := hiddenN hgt
  have HP2 := hiddenN hp2
  obtain ⟨L, hL⟩ : ∃ L, l.length = L := ⟨_, rfl⟩
  have hLm : L ≤ 1000000 := by have := len_siz l; omega
  have hLI : (L : Int) ≤ 1000000 := by omega
  have HL := hiddenN hL
  obtain ⟨g0, hg0⟩ : ∃ q, w.heap.size = q := ⟨_, rfl⟩
  have HG0 := hiddenN hg0
  obtain ⟨NV, hNV⟩ : ∃ q, V.length = q := ⟨_, rfl⟩
  have HNV := hiddenN hNV
  rw [hNV] at HP2 hVm
  rw [hL]
  clear hRE ih hs hK hR hA ha hp2 hgt hL hNV
  go_enter Try.func14, Try.ntmps14
  go_upto_region 3 with fail
  go_loopg [5, 11] L (fun gk ov iv wr => ∃ (pre rest : List Lp) (k : Nat) (S : List Lv) (d : Option Addr) (n cc : Nat) (Rs : List RwL), l = pre ++ rest ∧ pre.length = k ∧ gk = rest.length ∧ iv = .int .i64 (k : Int) ∧ ov = .slice d n cc ∧ S.length = n ∧ CapZ g0 wr d cc S ∧ MchZ (fun j => g0 ≤ j ∧ TyZ wr j ∧ ∀ y, d = some y → y.block ≠ j) false wr S pre ∧ Below g0 w wr ∧ RelR pre S Rs ∧ FamR g0 wr d Rs)
  case atStart => exact ⟨[], l, 0, [], none, 0, 0, [], rfl, rfl, HL.out.symm, rfl, rfl, rfl, CapZ.nil _ _, trivial, Below.refl _ _, rel_nil.2 ⟨rfl, rfl⟩, FamR.nil _ _ _⟩
  case round =>
    obtain ⟨pre, rest, k, S, d, n, cc, Rs, hl, hk, hgk, rfl, rfl, hSn, hC, hM, hb, hRl, hFm⟩ := hrel
    subst hgk
    have HRl := hiddenN hRl
    have HFm := hiddenN hFm
    have HB := hiddenN hb
    have HC := hiddenN hC
    have HM := hiddenN hM
    have HL2 := hiddenN hl
    have HPK := hiddenN hk
    have HSN := hiddenN hSn
    have hnk : n = k := by rw [← hSn, hM.len, hk]
    have HNK := hiddenN hnk
    have HLK : Hid (L = k + rest.length) := by show _ = _; rw [← HL.out, hl, List.length_append, hk]
    have hgw : g0 ≤ wr.heap.size := by rw [← HG0.out]; exact hb.size
    have hn6 : n ≤ 1000000 := by have := HLK.out; omega
    clear hl hk hb hC hM hSn hnk hRl hFm
    cases rest with
    | nil =>
      have hki : ¬ ((k : Int) < (L : Int)) := by rw [HLK.out]; simp
      have e1 : pre = l := by rw [HL2.out, List.append_nil]
      have HLn : Hid (L = n) := by show _ = _; have := HLK.out; have := HNK.out; simp at *; omega
      rw [e1] at HM HRl
      clear e1
      go_wp2
      rw [← HRE.out]
      exact ⟨d, cc, by rw [HL.out, HLn.out], by rw [HG0.out]; exact ⟨S, Rs, HC.out, HM.out, HRl.out, HFm.out⟩, by rw [HG0.out]; exact HB.out⟩
    | cons x r =>
      have hki : (k : Int) < (L : Int) := by rw [HLK.out]; simp; omega
      have hkL : k < L := by rw [HLK.out]; simp
      have hkm : (k : Int) ≤ 1000000 := by omega
      have hxg : l[k]? = some x := by rw [HL2.out, ← HPK.out, List.getElem?_append_right (Nat.le_refl _), Nat.sub_self]; rfl
      obtain ⟨ix, hix, hvx⟩ := HRP.out.get hxg
      obtain ⟨kg, s, bs, rfl, s0, s1, s2, ht, hn, hsk, hrb, hab, halt⟩ := HGT.out ix x hvx
      have hixl : ix < NV := by rw [← HNV.out]; exact (List.getElem?_eq_some_iff.1 hvx).1
      have hixi : (ix : Int) < (NV : Int) := by omega
      have hnkk : (n : Int) ≤ 1000000 := by omega
      rcases HA.out.lie with h0 | ⟨b, o, rfl, -⟩
      · rw [h0] at hix; simp at hix
      have cr0 := Cell.of_at HA.out hix
      have hbw : ∀ {ad : Addr} {v : Value}, w.cell? ad = some v → wr.cell? ad = some v := fun h => by
        have := HB.out
        rw [← HG0.out] at this
        exact cellN_later this h
      have cr := hbw cr0
      have hp2 := hbw HP2.out
      have k0 := hbw s0
      have k1 := hbw s1
      have k2 := hbw s2
      have hmem : x ∈ l := mem_get hxg
      obtain ⟨bd, hbd⟩ : ∃ q, x.body = q := ⟨_, rfl⟩
      obtain ⟨L1, hL1⟩ : ∃ q, bd.length = q := ⟨_, rfl⟩
      obtain ⟨tx, htx⟩ : ∃ q, s.t = q := ⟨_, rfl⟩
      obtain ⟨nx, hnx⟩ : ∃ q, s.n = q := ⟨_, rfl⟩
      obtain ⟨a1, ha1⟩ : ∃ q, s.a = q := ⟨_, rfl⟩
      obtain ⟨c1, hc1⟩ : ∃ q, s.c = q := ⟨_, rfl⟩
      rw [htx] at k0 ht
      rw [hnx] at k1 hn
      rw [ha1, hc1, hsk, hbd, hL1] at k2
      rw [ha1] at hab halt
      rw [hbd] at hrb
      have b1 := (Below.refl wr.heap.size wr).alloc (Nat.le_refl _) (.cells #[.int .i64 tx, .int .i64 nx, .slice a1 L1 c1] 56)
      have X1 := hiddenN (blkA_new 56 wr #[.int .i64 tx, .int .i64 nx, .slice a1 L1 c1])
      have CB : Hid (∀ u, Below (wr.alloc (.cells #[.int .i64 tx, .int .i64 nx, .slice a1 L1 c1] 56)).heap.size (wr.alloc (.cells #[.int .i64 tx, .int .i64 nx, .slice a1 L1 c1] 56)) u → Calls Try.prog 14 #[.pointer (some ⟨p, 0, none⟩), .slice a1 L1 c1] u (WrtE bd u)) := fun u hu => by
        have h2 : Below w.heap.size w u := by
          rw [HG0.out]
          exact HB.out.trans ((b1.trans (hu.mono b1.size)).mono hgw)
        have h1 := siz_mem hmem
        have := IH.out x hmem B F p V q bs a1 c1 u (HK.out.keep fun j hj => h2.block j (by rcases hj with h | h <;> exact h.2.lt))
        rw [hbd, hL1] at this
        rw [hbd] at h1
        exact this hrb (hab.keepQ fun y hy => h2.block _ (halt y hy)) (fun y hy => Nat.lt_of_lt_of_le (halt y hy) h2.size) (by have := HSZ.out; omega) (by rw [HNV.out]; exact hVm)
      have HB1 := hiddenN (HB.out.trans (b1.mono hgw))
      have HC1 := hiddenN (HC.out.later b1)
      have HM1 := hiddenN ((HM.out.keep (fun j hj => b1.block j hj.2.1.lt)).mono (G := fun j => g0 ≤ j ∧ TyZ (wr.alloc (.cells #[.int .i64 tx, .int .i64 nx, .slice a1 L1 c1] 56)) j ∧ ∀ y, d = some y → y.block ≠ j) fun j hj => ⟨hj.1, hj.2.1.keep (b1.block j hj.2.1.lt), hj.2.2⟩)
      have hgw1 : g0 ≤ (wr.alloc (.cells #[.int .i64 tx, .int .i64 nx, .slice a1 L1 c1] 56)).heap.size := Nat.le_trans hgw b1.size
      have FM1 := hiddenN (HFm.out.later b1)
      have HTX := hiddenN ht
      have HNX := hiddenN hn
      have HBD := hiddenN hbd
      have HL1 := hiddenN hL1
      have y0 := X1.out.cell (k := 0) rfl
      have y1 := X1.out.cell (k := 1) rfl
      have y2 := X1.out.cell (k := 2) rfl
      simp only [List.getElem_toArray, List.getElem_cons_zero, List.getElem_cons_succ] at y0 y1 y2
      clear hbw s0 s1 s2 hxg hix hvx hsk hrb hab halt cr0 hmem hbd hL1 htx hnx ha1 hc1 ht hn b1 X1 HM HC HB HFm
      go_upto_region 6 with fail
      clear cr hp2 k0 k1 k2
      obtain ⟨xb, hxE⟩ : ∃ q, wr.heap.size = q := ⟨_, rfl⟩
      rw [hxE] at y0 y1 y2 ⊢
      clear hxE hgw
      generalize wr.alloc (.cells #[.int .i64 tx, .int .i64 nx, .slice a1 L1 c1] 56) = W1 at *
      refine wp_region_said 11 (fun i u v => match i with
          | 0 => v = .slice d n cc
          | 1 => v = .pointer (some ⟨xb, 0, none⟩)
          | 2 => v = .int .i64 tx
          | 3 => v = .pointer (some ⟨xb, 1, none⟩)
          | 4 => v = .int .i64 nx
          | 5 => v = .pointer (some ⟨p, 0, none⟩)
          | 6 => v = .pointer (some ⟨xb, 2, none⟩)
          | 7 => v = .slice a1 L1 c1
          | 8 => WrV W1.heap.size L1 bd u v
          | 9 => ∃ d2 c2, WrtZ W1.heap.size u d2 c2 bd ∧ v = .agg #[.int .i64 tx, .int .i64 nx, .slice d2 L1 c2]
          | 10 => WrB W1.heap.size L1 bd tx nx u v
          | _ => True) (by kernel_rfl) (by kernel_rfl) (by kernel_rfl) (by kernel_rfl) ?_ ?_ ?_
      · intro i w v w' h hb
        match i, h with
        | 0, h => exact h
        | 1, h => exact h
        | 2, h => exact h
        | 3, h => exact h
        | 4, h => exact h
        | 5, h => exact h
        | 6, h => exact h
        | 7, h => exact h
        | 8, h => exact WrV.later h hb
        | 9, h => obtain ⟨d2, c2, h1, h2⟩ := h; exact ⟨d2, c2, h1.later hb, h2⟩
        | 10, h => exact WrB.later h hb
        | _ + 11, _ => trivial
      · intro i o ρ w' hi ho hb hc hf hfr hdep
        match i, hi with
        | 0, _ =>
          simp only [gTA, gCZ, gSI] at ho
          subst ho
          have ts : ρ (.tmp 5) = .slice d n cc := hfr 5 (by kernel_rfl)
          simp [go_sem, ts]
          exact ⟨Below.refl _ _, rfl⟩
        | 1, _ =>
          simp only [gTA, gCZ, gCS, gSI] at ho
          subst ho
          have ts : ρ (.tmp 8) = .pointer (some ⟨xb, 0, none⟩) := hfr 8 (by kernel_rfl)
          simp [go_sem, ts]
          exact ⟨Below.refl _ _, rfl⟩
        | 2, _ =>
          simp only [gTA, gCZ, gCS, gSI] at ho
          subst ho
          have ts : ρ (.tmp 23) = .pointer (some ⟨xb, 0, none⟩) := hdep 1 23 (by kernel_rfl) (by kernel_rfl)
          have kc := cellN_later hb y0
          simp [go_sem, ts, kc]
          exact ⟨Below.refl _ _, rfl⟩
        | 3, _ =>
          simp only [gTA, gCZ, gCS, gSI] at ho
          subst ho
          have ts : ρ (.tmp 8) = .pointer (some ⟨xb, 0, none⟩) := hfr 8 (by kernel_rfl)
          simp [go_sem, ts]
          exact ⟨Below.refl _ _, rfl⟩
        | 4, _ =>
          simp only [gTA, gCZ, gCS, gSI] at ho
          subst ho
          have ts : ρ (.tmp 25) = .pointer (some ⟨xb, 1, none⟩) := hdep 3 25 (by kernel_rfl) (by kernel_rfl)
          have kc := cellN_later hb y1
          simp [go_sem, ts, kc]
          exact ⟨Below.refl _ _, rfl⟩
        | 5, _ =>
          simp only [gTA, gCZ, gCS, gSI] at ho
          subst ho
          have ts : ρ (.tmp 0) = .pointer (some ⟨p, 0, none⟩) := hfr 0 (by kernel_rfl)
          simp [go_sem, ts]
          exact ⟨Below.refl _ _, rfl⟩
        | 6, _ =>
          simp only [gTA, gCZ, gCS, gSI] at ho
          subst ho
          have ts : ρ (.tmp 8) = .pointer (some ⟨xb, 0, none⟩) := hfr 8 (by kernel_rfl)
          simp [go_sem, ts]
          exact ⟨Below.refl _ _, rfl⟩
        | 7, _ =>
          simp only [gTA, gCZ, gCS, gSI] at ho
          subst ho
          have ts : ρ (.tmp 28) = .pointer (some ⟨xb, 2, none⟩) := hdep 6 28 (by kernel_rfl) (by kernel_rfl)
          have kc := cellN_later hb y2
          simp [go_sem, ts, kc]
          exact ⟨Below.refl _ _, rfl⟩
        | 8, _ =>
          simp only [gTA, gCZ, gCS, gSI] at ho
          subst ho
          have t0 : ρ (.tmp 27) = .pointer (some ⟨p, 0, none⟩) := hdep 5 27 (by kernel_rfl) (by kernel_rfl)
          have t1 : ρ (.tmp 29) = .slice a1 L1 c1 := hdep 7 29 (by kernel_rfl) (by kernel_rfl)
          simp [go_sem, t0, t1, hf]
          exact ⟨rfl, (CB.out w' hb).mono fun e w2 ⟨d2, c2, he, h1, h2⟩ => ⟨_, he, h2, d2, c2, by rw [HL1.out], h1.mono hb.size⟩⟩
        | 9, _ =>
          simp only [gTA, gCZ, gCS, gSI] at ho
          subst ho
          have t0 : ρ (.tmp 24) = .int .i64 tx := hdep 2 24 (by kernel_rfl) (by kernel_rfl)
          have t1 : ρ (.tmp 26) = .int .i64 nx := hdep 4 26 (by kernel_rfl) (by kernel_rfl)
          obtain ⟨d2, c2, t2, hw⟩ : WrV W1.heap.size L1 bd w' (ρ (.tmp 30)) := hdep 8 30 (by kernel_rfl) (by kernel_rfl)
          simp [go_sem, t0, t1, t2]
          exact ⟨Below.refl _ _, d2, c2, hw, rfl⟩
        | 10, _ =>
          simp only [gTA, gCZ, gCS, gSI] at ho
          subst ho
          obtain ⟨d2, c2, hw, t0⟩ : ∃ d2 c2, WrtZ W1.heap.size w' d2 c2 bd ∧ ρ (.tmp 31) = .agg #[.int .i64 tx, .int .i64 nx, .slice d2 L1 c2] := hdep 9 31 (by kernel_rfl) (by kernel_rfl)
          simp [go_sem, t0]
          exact ⟨(Below.refl _ _).alloc (Nat.le_refl _) _, WrB.new hw⟩
      · intro VV w9 q9 hS
        have e0 : VV 0 = .slice d n cc := hS 0 (by decide)
        have e1 : VV 1 = .pointer (some ⟨xb, 0, none⟩) := hS 1 (by decide)
        have e2 : VV 2 = .int .i64 tx := hS 2 (by decide)
        have e3 : VV 3 = .pointer (some ⟨xb, 1, none⟩) := hS 3 (by decide)
        have e4 : VV 4 = .int .i64 nx := hS 4 (by decide)
        have e5 : VV 5 = .pointer (some ⟨p, 0, none⟩) := hS 5 (by decide)
        have e6 : VV 6 = .pointer (some ⟨xb, 2, none⟩) := hS 6 (by decide)
        have e7 : VV 7 = .slice a1 L1 c1 := hS 7 (by decide)
        obtain ⟨V8, e8⟩ : ∃ v, VV 8 = v := ⟨_, rfl⟩
        obtain ⟨V9, e9⟩ : ∃ v, VV 9 = v := ⟨_, rfl⟩
        obtain ⟨d2, c2, gz, hw2, e10, z0, z1, z2⟩ : WrB W1.heap.size L1 bd tx nx w9 (VV 10) := hS 10 (by decide)
        simp only [List.drop_succ_cons, List.drop_zero, List.take_succ_cons, List.take_zero, puts, e0, e1, e2, e3, e4, e5, e6, e7, e8, e9, e10]
        simp only [Act.put, List.setIfInBounds_toArray, List.set_cons_zero, List.set_cons_succ]
        clear hS e0 e1 e2 e3 e4 e5 e6 e7 e8 e9 e10 VV
        have HW2 := hiddenN hw2
        have Q9 := hiddenN q9
        have CC9 := hiddenN (HC1.out.later q9)
        have hgw9 : g0 ≤ w9.heap.size := Nat.le_trans hgw1 q9.size
        clear hw2 q9
        go_upto_region 7 with (at_builtin; refine wpList_appZ rfl _ _ rfl g0 d cc S n HSN.out rfl CC9.out gz ⟨tx, nx, d2, L1, c2⟩ rfl z0 z1 z2 (by omega) hgw9 ?_; intro d3 c3 W9 hg9; have HG := hiddenN hg9; clear hg9)
        have hdl : ∀ y, d = some y → y.block < W1.heap.size := fun y hy => (HC1.out.lt y hy).2
        have G9k : ∀ j, (g0 ≤ j ∧ TyZ w9 j ∧ ∀ y, d = some y → y.block ≠ j) → W9.heap[j]? = w9.heap[j]? := fun j hj => HG.out.keep j hj.2.1.lt hj.2.2
        have G9n : ∀ j, (g0 ≤ j ∧ TyZ w9 j ∧ ∀ y, d = some y → y.block ≠ j) → ∀ y, d3 = some y → y.block ≠ j := fun j hj y hy e => by
          rcases HG.out.new y hy with h | h
          · exact hj.2.2 y h e
          · have := hj.2.1.lt; omega
        obtain ⟨S0, Qs, w1, w2, w3, w4⟩ := HW2.out
        have M9 : MchZ (fun j => g0 ≤ j ∧ TyZ w9 j ∧ ∀ y, d = some y → y.block ≠ j) false w9 S pre := (HM1.out.keep (fun j hj => Q9.out.block j hj.2.1.lt)).mono fun j hj => ⟨hj.1, hj.2.1.keep (Q9.out.block j hj.2.1.lt), hj.2.2⟩
        have hS0 : S0.length = bd.length := rel_len w3
        have MX : x.body = [] ∨ ∃ b o, d2 = some ⟨b, o, none⟩ ∧ (false = true → x.body.length + 1 ≤ c2) ∧ NstR (fun j => g0 ≤ j ∧ TyZ w9 j ∧ ∀ y, d = some y → y.block ≠ j) false w9 b o x.body := by
          rw [HBD.out]
          by_cases hbd : bd = []
          · exact .inl hbd
          · obtain ⟨g2, rfl⟩ := w1.there (by intro e; rw [e] at hS0; exact hbd (List.eq_nil_of_length_eq_zero hS0.symm))
            have hg2 := w1.lt _ rfl
            have n1 : ∀ y, d = some y → y.block ≠ g2 := fun y hy e => by have h3 := hdl y hy; have h4 : W1.heap.size ≤ g2 := hg2.1; omega
            have n2 : ∀ j, W1.heap.size ≤ j → ∀ y, d = some y → y.block ≠ j := fun j hj y hy e => by have h3 := hdl y hy; omega
            have n3 : ∀ k, k < S0.length → ∀ j, j < 3 → w9.cell? ⟨g2, 0 + k * 3 + j, none⟩ = some (celZ (nthZ S0 k) j) := fun k hk j hj => by
              rw [Nat.zero_add]
              exact w1.cell hk hj
            exact .inr ⟨g2, 0, rfl, (fun e => by cases e), nst_of_row (S := S0) ⟨Nat.le_trans hgw1 hg2.1, w1.ty, n1⟩ (w2.mono fun j hj => ⟨Nat.le_trans hgw1 hj.1, hj.2.1, n2 j hj.1⟩) n3 (fun e => by cases e)⟩
        have MS := hiddenN (((M9.snoc (s := ⟨tx, nx, d2, L1, c2⟩) (x := x) ⟨HTX.out.symm, HNX.out.symm, by rw [HBD.out, HL1.out], MX⟩).keep G9k).mono (G := fun j => g0 ≤ j ∧ TyZ W9 j ∧ ∀ y, d3 = some y → y.block ≠ j) fun j hj => ⟨hj.1, hj.2.1.keep (G9k j hj), G9n j hj⟩)
        have FMS : Hid (∃ Rs', RelR (pre ++ [x]) (S ++ [⟨tx, nx, d2, L1, c2⟩]) Rs' ∧ FamR g0 W9 d3 Rs') := by
          have F9 := FM1.out.later Q9.out
          have stp : ∀ {R : List RwL}, FamR g0 w9 d R → FamR g0 W9 d3 R := fun h => h.step (fun j _ hj hne => HG.out.keep j hj hne) HG.out.new
          by_cases hbd : bd = []
          · exact ⟨Rs ++ [], rel_snoc HTX.out.symm HNX.out.symm (by rw [HBD.out, HL1.out]) (.inl ⟨by rw [HBD.out]; exact hbd, rfl⟩) HRl.out, stp (by rw [List.append_nil]; exact F9)⟩
          · exact ⟨Rs ++ (Qs ++ [⟨d2, c2, S0⟩]), rel_snoc HTX.out.symm HNX.out.symm (by rw [HBD.out, HL1.out]) (.inr ⟨by rw [HBD.out]; exact hbd, S0, Qs, rfl, by rw [HBD.out]; exact hS0, by rw [HBD.out]; exact w3⟩) HRl.out, stp (F9.join w4 hgw1 w1 rfl (fun r hr y hy => ((FM1.out.own r hr).lt y hy).2) hdl)⟩
        have BWW := hiddenN (HB1.out.trans ((Q9.out.mono hgw1).trans (HG.out.below (fun y hy => (CC9.out.lt y hy).1) hgw9)))
        clear G9k G9n M9 MX w1 w2 w3 w4 hS0 hdl z0 z1 z2
        go_wp2
        go_roundg r.length
        case measure => simp
        case rel =>
          obtain ⟨Rs', r1, r2⟩ := FMS.out
          exact ⟨pre ++ [x], r, k + 1, S ++ [⟨tx, nx, d2, L1, c2⟩], d3, n + 1, c3, Rs', by rw [HL2.out]; simp, by rw [List.length_append, HPK.out]; rfl, rfl, by go_num, rfl, by rw [List.length_append, HSN.out]; rfl, HG.out.own, MS.out, BWW.out, r1, r2⟩
theorem CapR.roomQ {base : Nat} {w : World} {a : Option Addr} {cap : Nat} {zs : List Int} (h : CapR base w a cap zs) : zs.length ≤ cap := by
  rcases h.2 with ⟨hv, hn⟩ | ⟨g, cp, cur, hv, hg, hh, hc, hm, r⟩
  · simp at hv; omega
  · cases hv; exact hc
def ShoE (B : Nat) (F : Nat → Prop) (p : Nat) (V : List Lp) (q : Nat) (l : List Lp) (w : World) (e : Ending) (w' : World) : Prop := ∃ (d : Option Addr) (c : Nat) (ns : List Int) (T : List Lp) (q' : Nat), e = .returned (.slice d ns.length c) ∧ At w' d ns ∧ (∀ y, d = some y → y.block < w'.heap.size) ∧ RpZ (V ++ T) ns (shZ l) ∧ BkM B F w' p (V ++ T) q' ∧ q' + 2 * (shZ l).length ≤ q + 2 * l.length ∧ Fr B w w'
set_option maxRecDepth 100000 in
set_option maxHeartbeats 16000000 in
theorem shortest_any (B : Nat) (F : Nat → Prop) (p : Nat) (V : List Lp) (q : Nat) (l : List Lp) (ns : List Int) (a : Option Addr) (c : Nat) (w : World) (hK : BkM B F w p V q) (hR : RpZ V ns l) (hA : At w a ns) (hI : ∀ y, a = some y → F y.block ∧ IntB w y.block) (hF : ∀ k, w.heap.size ≤ k → F k) (hq : q + 2 * l.length ≤ 1000000) (hc : ns.length ≤ c) (hBw : B ≤ w.heap.size) :
    Calls Try.prog 15 #[.pointer (some ⟨p, 0, none⟩), .slice a ns.length c] w (ShoE B F p V q l w) := by
  obtain ⟨RE, hRE⟩ : ∃ Q : Ending → World → Prop, ShoE B F p V q l w = Q := ⟨_, rfl⟩
  rw [hRE]
  have HRE := hiddenN hRE
  have HA := hiddenN hA
  have HI := hiddenN hI
  have HRP := hiddenN hR
  have HK0 := hiddenN hK
  have HQ := hiddenN hq
  have HF := hiddenN hF
  clear hRE hA hI hR hq hK hF
  go_enter Try.func15, Try.ntmps15
  go_upto_region 2 with fail
  go_loopg [1, 5] (18 * l.length + 17) (fun gk rv wv wr => ∃ (lk : List Lp) (wd : Nat) (ms : List Int) (d : Option Addr) (cc mn : Nat) (T : List Lp) (qk : Nat), shF gk wd lk = shZ l ∧ 1 ≤ wd ∧ wd ≤ 17 ∧ 18 * lk.length + 18 ≤ gk + wd ∧ ms.length = mn ∧ rv = .slice d mn cc ∧ mn ≤ cc ∧ wv = .int .i64 (wd : Int) ∧ At wr d ms ∧ (∀ y, d = some y → F y.block ∧ IntB wr y.block) ∧ RpZ (V ++ T) ms lk ∧ BkM B F wr p (V ++ T) qk ∧ qk + 2 * lk.length ≤ q + 2 * l.length ∧ Fr B w wr)
  case atStart => exact ⟨l, 1, ns, a, c, ns.length, [], q, rfl, Nat.le_refl _, by omega, by omega, rfl, rfl, hc, rfl, HA.out, HI.out, by rw [List.append_nil]; exact HRP.out, by rw [List.append_nil]; exact HK0.out, Nat.le_refl _, Fr.refl _ _⟩
  case round =>
    clear HK0 HRP HA HI hc
    obtain ⟨lk, wd, ms, d, cc, mn, T, qk, hsh, hw1, hw2, hgk, hmn, rfl, hcc, rfl, hA, hI, hR, hK, hqk, hfr⟩ := hrel
    have HSH := hiddenN hsh
    have HGK := hiddenN hgk
    have HMN := hiddenN hmn
    have HR := hiddenN hR
    have HK := hiddenN hK
    have HQK := hiddenN hqk
    have HFR := hiddenN hfr
    have HA := hiddenN hA
    have HI := hiddenN hI
    have hml : lk.length = mn := by rw [← hmn]; exact hR.len.symm
    have hmm : mn ≤ 1000000 := by have := HQ.out; omega
    have HML := hiddenN hml
    have hBr : B ≤ wr.heap.size := Nat.le_trans hBw hfr.size
    clear hsh hgk hmn hR hK hqk hfr hA hI hml
    by_cases hgo : wd ≤ 16 ∧ 2 * wd ≤ mn
    · obtain ⟨g1, g2⟩ := hgo
      have h16 : (wd : Int) ≤ 16 := by omega
      have h2w : IntKind.i64.wrap (2 * (wd : Int)) = ((2 * wd : Nat) : Int) := by rw [IntKind.wrap_i64]; omega
      have h2m : ((2 * wd : Nat) : Int) ≤ (mn : Int) := by omega
      have FC := hiddenN (foldQ_any B F p (V ++ T) qk wd lk ms d cc wr HK.out HR.out HA.out HI.out hw1 g1 (by have := HQK.out; have := HQ.out; omega) (by rw [HMN.out]; exact hcc) hBr)
      rw [HMN.out] at FC
      obtain ⟨G, hG⟩ : ∃ G, gk = G + 1 := ⟨gk - 1, by have := HGK.out; omega⟩
      have HGE := hiddenN hG
      have HSS : Hid ((if (pasZ wd lk).length < lk.length then shF G 1 (pasZ wd lk) else shF G (wd + 1) (pasZ wd lk)) = shZ l) := by
        have h := HSH.out
        rw [hG, shF, if_pos ⟨g1, by rw [HML.out]; exact g2⟩] at h
        exact h
      have HPL := hiddenN (pas_len hw1 lk)
      obtain ⟨lk2, hlk2⟩ : ∃ q, pasZ wd lk = q := ⟨_, rfl⟩
      rw [hlk2] at HSS HPL
      have HLK2 := hiddenN hlk2
      clear hG hlk2 HK HR HA HI HSH
      go_upto_region 4 with (go_at_call 17; (with_reducible refine FC.out.mono ?_); rintro e w1 ⟨d2, c2, ns2, T2, q2, rfl, f1, f2, f3, f4, f5⟩; have F1 := hiddenN f1; have F2 := hiddenN f2; have F3 := hiddenN f3; have F4 := hiddenN f4; have F5 := hiddenN f5; clear f1 f2 f3 f4 f5)
      rw [HLK2.out] at F2 F4
      have HFR2 := hiddenN (HFR.out.trans F5.out)
      have HI2 : Hid (∀ y, d2 = some y → F y.block ∧ IntB w1 y.block) := fun y hy => ⟨HF.out _ (Nat.le_trans HFR.out.size (F1.out.lt y hy).1), F1.out.int y hy⟩
      have hnl : ns2.length = lk2.length := F2.out.len
      obtain ⟨n2, hn2⟩ : ∃ q, ns2.length = q := ⟨_, rfl⟩
      have HN2 := hiddenN hn2
      have HNL : Hid (lk2.length = n2) := hnl.symm.trans hn2
      have hc2 : n2 ≤ c2 := by rw [← hn2]; exact F1.out.roomQ
      rw [hn2]
      have HQ2 : Hid (q2 + 2 * lk2.length ≤ q + 2 * l.length) := by show _ ≤ _; have := F4.out; have := HQK.out; omega
      have R2 : Hid (RpZ (V ++ (T ++ T2)) ns2 lk2) := by show RpZ _ _ _; rw [← List.append_assoc]; exact F2.out
      have K2 : Hid (BkM B F w1 p (V ++ (T ++ T2)) q2) := by show BkM _ _ _ _ _ _; rw [← List.append_assoc]; exact F3.out
      have hle : n2 ≤ mn := by have := HPL.out; have := HNL.out; have := HML.out; omega
      clear FC hnl hn2 F2 F3 F4 F5 HFR
      by_cases hsh : n2 < mn
      · have hsi : (n2 : Int) < (mn : Int) := by omega
        have HS2 : Hid (shF G 1 lk2 = shZ l) := by
          have h := HSS.out
          rw [if_pos (by rw [HNL.out, HML.out]; exact hsh)] at h
          exact h
        go_wp2
        go_roundg G
        case measure => have := HGE.out; omega
        case rel => exact ⟨lk2, 1, ns2, d2, c2, n2, T ++ T2, q2, HS2.out, Nat.le_refl _, by omega, by have := HGK.out; have := HGE.out; have := HNL.out; have := HML.out; omega, HN2.out, rfl, hc2, by go_num, F1.out.at, HI2.out, R2.out, K2.out, HQ2.out, HFR2.out⟩
      · have hsi : ¬ ((n2 : Int) < (mn : Int)) := by omega
        have HS2 : Hid (shF G (wd + 1) lk2 = shZ l) := by
          have h := HSS.out
          rw [if_neg (by rw [HNL.out, HML.out]; exact hsh)] at h
          exact h
        go_wp2
        go_roundg G
        case measure => have := HGE.out; omega
        case rel => exact ⟨lk2, wd + 1, ns2, d2, c2, n2, T ++ T2, q2, HS2.out, by omega, by omega, by have := HGK.out; have := HGE.out; have := HNL.out; have := HML.out; omega, HN2.out, rfl, hc2, by go_num, F1.out.at, HI2.out, R2.out, K2.out, HQ2.out, HFR2.out⟩
    · have HE : Hid (lk = shZ l) := by
        have h := HSH.out
        cases gk with
        | zero => rw [shF] at h; exact h
        | succ G => rw [shF, if_neg (by rw [HML.out]; exact hgo)] at h; exact h
      have HEND : Hid (ShoE B F p V q l w (.returned (.slice d mn cc)) wr) := ⟨d, cc, ms, T, qk, by rw [HMN.out], HA.out, fun y hy => (HI.out y hy).2.lt, by rw [← HE.out]; exact HR.out, HK.out, by rw [← HE.out]; exact HQK.out, HFR.out⟩
      by_cases g1 : wd ≤ 16
      · have h16 : (wd : Int) ≤ 16 := by omega
        have h2w : IntKind.i64.wrap (2 * (wd : Int)) = ((2 * wd : Nat) : Int) := by rw [IntKind.wrap_i64]; omega
        have h2m : ¬ (((2 * wd : Nat) : Int) ≤ (mn : Int)) := by omega
        clear hgo
        go_wp2
        rw [← HRE.out]
        exact HEND.out
      · have h16 : ¬ ((wd : Int) ≤ 16) := by omega
        clear hgo
        go_wp2
        rw [← HRE.out]
        exact HEND.out
theorem WrtZ.nil (B : Nat) (w : World) : WrtZ B w none 0 [] := ⟨[], [], CapZ.nil _ _, trivial, rel_nil.2 ⟨rfl, rfl⟩, FamR.nil _ _ _⟩
theorem WrtZ.nst {B : Nat} {w : World} {d : Option Addr} {c : Nat} {l : List Lp} (h : WrtZ B w d c l) : Nst (fun k => B ≤ k ∧ TyZ w k) false w d l := by
  obtain ⟨S, Rs, h1, h2, h3, h4⟩ := h
  by_cases hl : l = []
  · exact .inl hl
  · obtain ⟨g, rfl⟩ := h1.there (by intro e; rw [e] at h2; have := h2.len; exact hl (List.eq_nil_of_length_eq_zero this.symm))
    refine .inr ⟨g, 0, rfl, nst_of_row (S := S) ⟨(h1.lt _ rfl).1, h1.ty⟩ (h2.mono fun j hj => ⟨hj.1, hj.2.1⟩) (fun k hk j hj => ?_) (fun e => by cases e)⟩
    rw [Nat.zero_add]
    exact h1.cell hk hj
theorem WrtZ.room {B : Nat} {w : World} {d : Option Addr} {c : Nat} {l : List Lp} (h : WrtZ B w d c l) : l.length ≤ c := by
  obtain ⟨S, Rs, h1, h2, h3, h4⟩ := h
  rw [← h2.len]
  exact h1.room
def FolE (t : Int) (l : List Lp) (w : World) (e : Ending) (w' : World) : Prop := ∃ d c, e = .returned (.tuple #[.slice d (fldV t l).length c, .int .i64 (fldE t l : Int)]) ∧ WrtZ w.heap.size w' d c (fldV t l) ∧ Below w.heap.size w w'
set_option maxRecDepth 100000 in
set_option maxHeartbeats 16000000 in
theorem foldZ_any (t : Int) (l : List Lp) (m : Bool) (a : Option Addr) (c : Nat) (w : World) (hN : Nst (· < w.heap.size) m w a l) (hs : sizZ l ≤ 1000000) :
    Calls Try.prog 5 #[.int .i64 t, .slice a l.length c] w (FolE t l w) := by
  have HN := hiddenN hN
  have CK := hiddenN (checkZ_any l m a c w hN hs)
  obtain ⟨ck, hck⟩ : ∃ q, chkZ l = q := ⟨_, rfl⟩
  rw [hck] at CK
  have HCK := hiddenN hck
  obtain ⟨RE, hRE⟩ : ∃ Q : Ending → World → Prop, FolE t l w = Q := ⟨_, rfl⟩
  rw [hRE]
  have HRE := hiddenN hRE
  obtain ⟨L, hL⟩ : ∃ q, l.length = q := ⟨_, rfl⟩
  have HL := hiddenN hL
  rw [hL] at CK ⊢
  clear hN hck hRE hL
  by_cases hc0 : ck = 0
  · subst hc0
    have HSZ := hiddenN (chk_siz HCK.out)
    have HIN := hiddenN (chk_in HCK.out)
    have HLS := hiddenN (len_siz l)
    by_cases h1 : t < 1
    · have HE : Hid (fldE t l = 1) := by show _ = _; unfold fldE; rw [if_neg (by rw [HCK.out]; decide), if_pos (.inl h1)]
      have HV : Hid (fldV t l = []) := by show _ = _; unfold fldV; rw [HE.out]; rfl
      go_enter Try.func5, Try.ntmps5
      go_wp2_with (go_at_call 12; (with_reducible refine CK.out.mono ?_); rintro e w1 ⟨rfl, hb1⟩; have B1 := hiddenN hb1; clear hb1)
      rw [← HRE.out]
      exact ⟨none, 0, by rw [HE.out, HV.out]; rfl, by rw [HV.out]; exact WrtZ.nil _ _, B1.out⟩
    by_cases h2 : 16 < t
    · have HE : Hid (fldE t l = 1) := by show _ = _; unfold fldE; rw [if_neg (by rw [HCK.out]; decide), if_pos (.inr h2)]
      have HV : Hid (fldV t l = []) := by show _ = _; unfold fldV; rw [HE.out]; rfl
      go_enter Try.func5, Try.ntmps5
      go_wp2_with (go_at_call 12; (with_reducible refine CK.out.mono ?_); rintro e w1 ⟨rfl, hb1⟩; have B1 := hiddenN hb1; clear hb1)
      rw [← HRE.out]
      exact ⟨none, 0, by rw [HE.out, HV.out]; rfl, by rw [HV.out]; exact WrtZ.nil _ _, B1.out⟩
    obtain ⟨wd, rfl⟩ : ∃ wd : Nat, t = (wd : Int) := ⟨t.toNat, by omega⟩
    have hw1 : 1 ≤ wd := by omega
    have hw2 : wd ≤ 16 := by omega
    have HE : Hid (fldE (wd : Int) l = chkZ (pasZ wd l)) := by show _ = _; unfold fldE; rw [if_neg (by rw [HCK.out]; decide), if_neg (by omega)]; rfl
    have HV : Hid (fldV (wd : Int) l = if chkZ (pasZ wd l) = 0 then pasZ wd l else []) := by show _ = _; unfold fldV; rw [HE.out]; rfl
    have HPS := hiddenN (pas_siz hw1 l)
    have HPL := hiddenN (pas_len hw1 l)
    obtain ⟨l2, hl2⟩ : ∃ q, pasZ wd l = q := ⟨_, rfl⟩
    have HL2 := hiddenN hl2
    rw [hl2] at HE HV HPS HPL
    clear hl2
    go_enter Try.func5, Try.ntmps5
    go_upto_region 6 with (go_at_call 12; (with_reducible refine CK.out.mono ?_); rintro e w1 ⟨rfl, hb1⟩; have B1 := hiddenN hb1; clear hb1)
    have NB := hiddenN (newBook_any (fun _ => True) w1)
    clear CK
    go_upto_region 7 with (go_at_call 13; (with_reducible refine NB.out.mono ?_); rintro e w2 ⟨p, rfl, k2, b2⟩; have K2 := hiddenN k2; have B2 := hiddenN b2; clear k2 b2)
    clear NB
    have hww1 : w.heap.size ≤ w1.heap.size := B1.out.size
    have hw12 : w1.heap.size ≤ w2.heap.size := B2.out.size
    have BW2 := hiddenN (B1.out.trans (B2.out.mono hww1))
    have NM := hiddenN (numbered_any l w1.heap.size (fun _ => True) p [] 0 (2 * sizZ l) m a c w2 K2.out ((HN.out.below BW2.out).mono fun k hk => Nat.lt_of_lt_of_le hk hww1) (fun _ _ => trivial) (by omega) (by have := HSZ.out; have := HLS.out; omega) HIN.out hw12)
    rw [HL.out] at NM
    clear K2
    go_upto_region 8 with (first | (go_at_call 16; (with_reducible refine NM.out.mono ?_); rintro e w3 ⟨a3, ns3, T3, rfl, q1, q2, q3, q4⟩; have FQ := hiddenN (foldQ_any w1.heap.size (fun _ => True) p ([] ++ T3) (2 * sizZ l) wd l ns3 (some ⟨a3, 0, none⟩) L w3 q3 q2 q1.at (fun y hy => ⟨trivial, q1.int y hy⟩) hw1 hw2 (by have := HSZ.out; have := HLS.out; omega) (by rw [q2.len, HL.out]; exact Nat.le_refl _) (Nat.le_trans hw12 q4.size)); rw [q2.len, HL.out] at FQ; have FR3 := hiddenN q4; clear q1 q2 q3 q4) | (go_at_call 17; (with_reducible refine FQ.out.mono ?_); rintro e w4 ⟨d4, c4, ns4, T4, q4, rfl, r1, r2, r3, r4, r5⟩; rw [HL2.out] at r2 r4; have WQ := hiddenN (written_any l2 w1.heap.size (fun _ => True) p ([] ++ T3 ++ T4) q4 ns4 d4 c4 w4 r3 r2 r1.at (fun y hy => (r1.lt y hy).2) (by have := HSZ.out; have := HPS.out; omega) (by have := r3.few; have := HSZ.out; have := HLS.out; omega)); rw [← r2.len] at WQ; have HNL4 := hiddenN r2.len; have FR4 := hiddenN (FR3.out.trans r5); clear r1 r2 r3 r4 r5) | (go_at_call 14; (with_reducible refine WQ.out.mono ?_); rintro e w5 ⟨d5, c5, rfl, s1, s2⟩; have S1 := hiddenN s1; have S2 := hiddenN s2; clear s1 s2))
    have hw24 : w2.heap.size ≤ w4.heap.size := FR4.out.size
    have BW4 := hiddenN (BW2.out.trans ((FR4.out.below hw12).mono hww1))
    have BW5 := hiddenN (BW4.out.trans (S2.out.mono BW4.out.size))
    have CK2 := hiddenN (checkZ_any l2 false d5 c5 w5 (S1.out.nst.mono fun k hk => hk.2.lt) (by have := HSZ.out; have := HPS.out; omega))
    have SW := hiddenN (S1.out.mono (Nat.le_trans hww1 (Nat.le_trans hw12 hw24)))
    obtain ⟨ck2, hck2⟩ : ∃ q, chkZ l2 = q := ⟨_, rfl⟩
    rw [hck2] at CK2 HE HV
    obtain ⟨L2, hL2⟩ : ∃ q, l2.length = q := ⟨_, rfl⟩
    rw [hL2] at CK2 ⊢
    have HLL2 := hiddenN hL2
    clear hck2 hL2 S1 S2 NM FQ WQ
    by_cases hc2 : ck2 = 0
    · subst hc2
      go_wp2_with (go_at_call 12; (with_reducible refine CK2.out.mono ?_); rintro e w6 ⟨rfl, hb6⟩; have B6 := hiddenN hb6; clear hb6)
      rw [← HRE.out]
      have e : fldV (wd : Int) l = l2 := HV.out
      exact ⟨d5, c5, by rw [HE.out, e, HLL2.out]; rfl, by rw [e]; exact SW.out.later B6.out, BW5.out.trans (B6.out.mono BW5.out.size)⟩
    · have hci : ((ck2 : Int) != 0) = true := by simp; omega
      have e : fldV (wd : Int) l = [] := by rw [HV.out, if_neg hc2]
      have HVE := hiddenN e
      clear e
      go_wp2_with (go_at_call 12; (with_reducible refine CK2.out.mono ?_); rintro e w6 ⟨rfl, hb6⟩; have B6 := hiddenN hb6; clear hb6)
      rw [← HRE.out]
      exact ⟨none, 0, by rw [HE.out, HVE.out]; rfl, by rw [HVE.out]; exact WrtZ.nil _ _, BW5.out.trans (B6.out.mono BW5.out.size)⟩
  · have hci : ((ck : Int) != 0) = true := by simp; omega
    have HE : Hid (fldE t l = ck) := by show _ = _; unfold fldE; rw [if_pos (by rw [HCK.out]; exact hc0), HCK.out]
    have HV : Hid (fldV t l = []) := by show _ = _; unfold fldV; rw [HE.out, if_neg hc0]
    go_enter Try.func5, Try.ntmps5
    go_wp2_with (go_at_call 12; (with_reducible refine CK.out.mono ?_); rintro e w1 ⟨rfl, hb1⟩; have B1 := hiddenN hb1; clear hb1)
    rw [← HRE.out]
    exact ⟨none, 0, by rw [HE.out, HV.out]; rfl, by rw [HV.out]; exact WrtZ.nil _ _, B1.out⟩
def lvfZ (R : List (Int × Int)) : List Lp := R.map fun p => ⟨p.2, p.1, []⟩
def lvfS (R : List (Int × Int)) : List Lv := R.map fun p => ⟨p.2, p.1, none, 0, 0⟩
theorem mch_lvf {F : Nat → Prop} {w : World} : ∀ (R : List (Int × Int)), MchZ F false w (lvfS R) (lvfZ R)
  | [] => trivial
  | _ :: R => ⟨⟨rfl, rfl, rfl, .inl rfl⟩, mch_lvf R⟩
theorem lvf_len (R : List (Int × Int)) : (lvfZ R).length = R.length := List.length_map ..
theorem lvf_siz : ∀ (R : List (Int × Int)), sizZ (lvfZ R) = R.length
  | [] => siz_nil
  | p :: R => by
    show sizZ (⟨p.2, p.1, []⟩ :: lvfZ R) = _
    rw [siz_cons, lvf_siz R, siz_nil, List.length_cons]; omega
set_option maxRecDepth 100000 in
set_option maxHeartbeats 16000000 in
theorem leaves_any (R : List (Int × Int)) (a : Option Addr) (c : Nat) (w : World) (hA : AtY w a R) (ha : ∀ x, a = some x → x.block < w.heap.size) (hm : R.length ≤ 1000000) :
    Calls Try.prog 10 #[.slice a R.length c] w fun e w' => ∃ q, e = .returned (.slice (some ⟨q, 0, none⟩) R.length R.length) ∧ CpdZ w.heap.size w' q (lvfZ R) ∧ Below w.heap.size w w' := by
  obtain ⟨RE, hRE⟩ : ∃ Q : Ending → World → Prop, (fun e w' => ∃ q, e = Ending.returned (.slice (some ⟨q, 0, none⟩) R.length R.length) ∧ CpdZ w.heap.size w' q (lvfZ R) ∧ Below w.heap.size w w') = Q := ⟨_, rfl⟩
  rw [hRE]
  have HRE := hiddenN hRE
  have HA := hiddenN hA
  obtain ⟨L, hL⟩ : ∃ L, R.length = L := ⟨_, rfl⟩
  have HL := hiddenN hL
  have hLm : L ≤ 1000000 := by omega
  have hLI : (L : Int) ≤ 1000000 := by omega
  obtain ⟨i0, hi, hz0, hz1, hz2⟩ := info_parts Try.infoLoop
  obtain ⟨w1, hr, ho, hg⟩ := run_make_full (P := Try.prog) w w.heap.size 23 29 i0 _ 3 Try.underlying23 hi hz0 hz1 .i64 .i64 L (by rw [hz2]; omega) (by unfold maxLen; omega) (Nat.le_refl _)
  have b1 : Below w.heap.size w w1 := (Below.refl _ _).grown hg (Nat.le_refl _) (fun k hk => by cases hk)
  have C0 : Hid (CapZ w.heap.size w1 (some ⟨w.heap.size, 0, none⟩) L (List.replicate L ⟨0, 0, none, 0, 0⟩)) := by
    show CapZ _ _ _ _ _
    unfold CapZ
    rw [List.length_replicate, ← madeZ]
    exact ho
  have B1 := hiddenN b1
  rw [hL]
  clear hRE hA hL hi hz0 hz1 hz2 ho hg b1 hm
  go_enter Try.func10, Try.ntmps10
  go_upto_region 3 with fail
  clear hr
  obtain ⟨g, hgE⟩ : ∃ q, w.heap.size = q := ⟨_, rfl⟩
  have HG := hiddenN hgE
  rw [hgE] at C0 B1 ⊢
  clear hgE
  go_loopg [11] L (fun gk iv wr => ∃ (pre rest : List (Int × Int)) (k : Nat), R = pre ++ rest ∧ pre.length = k ∧ gk = rest.length ∧ iv = .int .i64 (k : Int) ∧ Below g w wr ∧ CapZ g wr (some ⟨g, 0, none⟩) L (lvfS pre ++ List.replicate rest.length ⟨0, 0, none, 0, 0⟩))
  case atStart => exact ⟨[], R, 0, rfl, rfl, HL.out.symm, rfl, B1.out, by rw [HL.out]; exact C0.out⟩
  case round =>
    clear C0 B1
    obtain ⟨pre, rest, k, hl, hk, hgk, rfl, hb, hC⟩ := hrel
    subst hgk
    have HB := hiddenN hb
    have HC := hiddenN hC
    have HL2 := hiddenN hl
    have HPK := hiddenN hk
    have HSK : Hid ((lvfS pre).length = k) := (List.length_map ..).trans hk
    have HLK : Hid (L = k + rest.length) := by show _ = _; rw [← HL.out, hl, List.length_append, hk]
    have hgw : g < wr.heap.size := (hC.lt _ rfl).2
    clear hl hk hb hC
    cases rest with
    | nil =>
      have hki : ¬ ((k : Int) < (L : Int)) := by rw [HLK.out]; simp
      go_wp2
      rw [← HRE.out, HL.out, HG.out]
      have e1 : pre = R := by rw [HL2.out, List.append_nil]
      have hC := HC.out
      rw [List.length_nil, List.replicate_zero, List.append_nil, e1] at hC
      refine ⟨g, rfl, ⟨Nat.le_refl _, hgw, ?_⟩, HB.out⟩
      refine nst_of_row (S := lvfS R) ⟨Nat.le_refl _, hC.ty⟩ (mch_lvf R) (fun k hk j hj => ?_) (fun e => by cases e)
      rw [Nat.zero_add]
      exact hC.cell hk hj
    | cons x r =>
      have hki : (k : Int) < (L : Int) := by rw [HLK.out]; simp; omega
      have hkL : k < L := by rw [HLK.out]; simp
      have hkm : (k : Int) ≤ 1000000 := by omega
      have hx : R[k]? = some x := by rw [HL2.out, ← HPK.out, List.getElem?_append_right (Nat.le_refl _), Nat.sub_self]; rfl
      rcases HA.out with h0 | ⟨b, o, rfl, hcl⟩
      · rw [h0] at hx; simp at hx
      obtain ⟨q0', q1'⟩ := hcl k (by rw [HL.out]; exact hkL)
      have en : nthY R k = x := by unfold nthY; rw [List.getD_eq_getElem?_getD, hx]; rfl
      rw [en] at q0' q1'
      have hbg : Below w.heap.size w wr := by rw [HG.out]; exact HB.out
      have q0 := cellN_later hbg q0'
      have q1 := cellN_later hbg q1'
      obtain ⟨nx, hnx⟩ : ∃ q, x.1 = q := ⟨_, rfl⟩
      obtain ⟨tx, htx⟩ : ∃ q, x.2 = q := ⟨_, rfl⟩
      rw [hnx] at q0
      rw [htx] at q1
      have HXE : Hid (x = (nx, tx)) := by show x = _; rw [← hnx, ← htx]
      have b1 := (Below.refl wr.heap.size wr).alloc (Nat.le_refl _) (.cells #[.int .i64 nx, .int .i64 tx] 45)
      have X1 := hiddenN (blkA_new 45 wr #[.int .i64 nx, .int .i64 tx])
      have y0 := X1.out.cell (k := 0) rfl
      have y1 := X1.out.cell (k := 1) rfl
      simp only [List.getElem_toArray, List.getElem_cons_zero, List.getElem_cons_succ] at y0 y1
      have HC9 := hiddenN (HC.out.later b1)
      have HB9 := hiddenN (HB.out.trans (b1.mono (Nat.le_of_lt hgw)))
      have hkS : k < (lvfS pre ++ List.replicate (x :: r).length (⟨0, 0, none, 0, 0⟩ : Lv)).length := by rw [List.length_append, HSK.out, List.length_replicate]; simp
      have z0 := HC9.out.cell hkS (j := 0) (by decide)
      have z1 := HC9.out.cell hkS (j := 1) (by decide)
      have z2 := HC9.out.cell hkS (j := 2) (by decide)
      have enz : nthZ (lvfS pre ++ List.replicate (x :: r).length (⟨0, 0, none, 0, 0⟩ : Lv)) k = ⟨0, 0, none, 0, 0⟩ := by
        unfold nthZ
        rw [List.getD_eq_getElem?_getD, ← HSK.out, List.getElem?_append_right (Nat.le_refl _), Nat.sub_self]
        rfl
      rw [enz, Nat.add_zero] at z0
      rw [enz] at z1 z2
      rw [show celZ ⟨0, 0, none, 0, 0⟩ 0 = .int .i64 0 from rfl] at z0
      rw [show celZ ⟨0, 0, none, 0, 0⟩ 1 = .int .i64 0 from rfl] at z1
      rw [show celZ ⟨0, 0, none, 0, 0⟩ 2 = .slice none 0 0 from rfl] at z2
      have f0 := World.ownsRow.frozenAt HC9.out (k * 3)
      have f1 := World.ownsRow.frozenAt HC9.out (k * 3 + 1)
      have f2 := World.ownsRow.frozenAt HC9.out (k * 3 + 2)
      have o1 := World.ownsRow.stored HC9.out (k * 3) (.int .i64 tx)
      have o2 := World.ownsRow.stored o1.1 (k * 3 + 1) (.int .i64 nx)
      have o3 := World.ownsRow.stored o2.1 (k * 3 + 2) (.slice none 0 0)
      have HC10 : Hid (CapZ g ((((wr.alloc (.cells #[.int .i64 nx, .int .i64 tx] 45)).setCell ⟨g, k * 3, none⟩ (.int .i64 tx)).setCell ⟨g, k * 3 + 1, none⟩ (.int .i64 nx)).setCell ⟨g, k * 3 + 2, none⟩ (.slice none 0 0)) (some ⟨g, 0, none⟩) L (lvfS (pre ++ [x]) ++ List.replicate r.length ⟨0, 0, none, 0, 0⟩)) := by
        have h3 := o3.1
        have e1 : lvfS pre ++ List.replicate (x :: r).length (⟨0, 0, none, 0, 0⟩ : Lv) = lvfS pre ++ ⟨0, 0, none, 0, 0⟩ :: List.replicate r.length ⟨0, 0, none, 0, 0⟩ := rfl
        rw [e1, ← HSK.out, flatZ_set (lvfS pre) ⟨tx, nx, none, 0, 0⟩] at h3
        have e2 : lvfS (pre ++ [x]) = lvfS pre ++ [⟨tx, nx, none, 0, 0⟩] := by unfold lvfS; rw [List.map_append, HXE.out]; rfl
        show CapZ _ _ _ _ _
        unfold CapZ
        rw [e2, List.append_assoc, List.singleton_append, ← HSK.out]
        simpa using h3
      have HB10 : Hid (Below g w ((((wr.alloc (.cells #[.int .i64 nx, .int .i64 tx] 45)).setCell ⟨g, k * 3, none⟩ (.int .i64 tx)).setCell ⟨g, k * 3 + 1, none⟩ (.int .i64 nx)).setCell ⟨g, k * 3 + 2, none⟩ (.slice none 0 0))) := ((HB9.out.setCell (p := ⟨g, k * 3, none⟩) (Nat.le_refl _) _).setCell (p := ⟨g, k * 3 + 1, none⟩) (Nat.le_refl _) _).setCell (p := ⟨g, k * 3 + 2, none⟩) (Nat.le_refl _) _
      clear o1 o2 o3 hbg q0' q1' hx en hcl X1 b1 hkS enz hnx htx HB HC
      go_upto_region 5 with fail
      obtain ⟨xb, hxb⟩ : ∃ q, wr.heap.size = q := ⟨_, rfl⟩
      rw [hxb] at y0 y1 ⊢
      clear hxb hgw q0 q1
      generalize wr.alloc (.cells #[.int .i64 nx, .int .i64 tx] 45) = W1 at *
      go_wp2
      go_roundg r.length
      case measure => simp
      case rel => exact ⟨pre ++ [x], r, k + 1, by rw [HL2.out]; simp, by rw [List.length_append, HPK.out]; rfl, rfl, by go_num, HB10.out, HC10.out⟩
theorem sh_keep {P : List Lp → Prop} (hP : ∀ w l, 1 ≤ w → w ≤ 16 → P l → P (pasZ w l)) : ∀ (f wd : Nat) (l : List Lp), 1 ≤ wd → P l → P (shF f wd l)
  | 0, _, l, _, h => by rw [shF]; exact h
  | f + 1, wd, l, hw, h => by
    rw [shF]
    split
    · rename_i hc
      split
      · exact sh_keep hP f 1 _ (Nat.le_refl _) (hP wd l hw hc.1 h)
      · exact sh_keep hP f (wd + 1) _ (by omega) (hP wd l hw hc.1 h)
    · exact h
theorem sh_siz (l : List Lp) : sizZ (shZ l) ≤ sizZ l := sh_keep (P := fun m => sizZ m ≤ sizZ l) (fun _ m hw _ h => Nat.le_trans (pas_siz hw m) h) _ 1 l (Nat.le_refl _) (Nat.le_refl _)
/-- What Compress answers: its error, its row. -/
def cmpE (zs : List Int) : Nat := if 2048 < zs.length then 2 else chkZ (lvfZ (runsY zs))
def cmpV (zs : List Int) : List Lp := if cmpE zs = 0 then shZ (lvfZ (runsY zs)) else []
theorem runs_few (zs : List Int) : (runsY zs).length ≤ zs.length := by
  have := (runs_is zs).few
  exact this
def CmpE (zs : List Int) (w : World) (e : Ending) (w' : World) : Prop := ∃ d c, e = .returned (.tuple #[.slice d (cmpV zs).length c, .int .i64 (cmpE zs : Int)]) ∧ WrtZ w.heap.size w' d c (cmpV zs) ∧ Below w.heap.size w w'
set_option maxRecDepth 100000 in
set_option maxHeartbeats 16000000 in
theorem compress_any (zs : List Int) (a : Option Addr) (c : Nat) (w : World) (hA : At w a zs) :
    Calls Try.prog 4 #[.slice a zs.length c] w (CmpE zs w) := by
  have HA := hiddenN hA
  obtain ⟨RE, hRE⟩ : ∃ Q : Ending → World → Prop, CmpE zs w = Q := ⟨_, rfl⟩
  rw [hRE]
  have HRE := hiddenN hRE
  obtain ⟨L, hL⟩ : ∃ q, zs.length = q := ⟨_, rfl⟩
  have HL := hiddenN hL
  rw [hL]
  clear hRE hL hA
  by_cases hlong : 2048 < L
  · have hli : (2048 : Int) < (L : Int) := by omega
    have HE : Hid (cmpE zs = 2) := by show _ = _; unfold cmpE; rw [HL.out, if_pos hlong]
    have HV : Hid (cmpV zs = []) := by show _ = _; unfold cmpV; rw [HE.out]; rfl
    go_enter Try.func4, Try.ntmps4
    go_wp2
    rw [← HRE.out]
    exact ⟨none, 0, by rw [HE.out, HV.out]; rfl, by rw [HV.out]; exact WrtZ.nil _ _, Below.refl _ _⟩
  have hli : ¬ ((2048 : Int) < (L : Int)) := by omega
  have RU := hiddenN (runsZ_any a zs c w HA.out (by rw [HL.out]; omega))
  have HRF := hiddenN (runs_few zs)
  rw [HL.out] at RU HRF
  have HE : Hid (cmpE zs = chkZ (lvfZ (runsY zs))) := by show _ = _; unfold cmpE; rw [HL.out, if_neg hlong]
  have HV : Hid (cmpV zs = if chkZ (lvfZ (runsY zs)) = 0 then shZ (lvfZ (runsY zs)) else []) := by show _ = _; unfold cmpV; rw [HE.out]
  unfold RunE at RU
  obtain ⟨R, hR⟩ : ∃ q, runsY zs = q := ⟨_, rfl⟩
  rw [hR] at RU HRF HE HV
  obtain ⟨N, hN⟩ : ∃ q, R.length = q := ⟨_, rfl⟩
  have HN := hiddenN hN
  rw [hN] at RU HRF
  obtain ⟨l, hl⟩ : ∃ q, lvfZ R = q := ⟨_, rfl⟩
  have HLV := hiddenN hl
  have hNm : N ≤ 2048 := by have := HRF.out; omega
  have HLN : Hid (l.length = N) := by show _ = _; rw [← hl, lvf_len, hN]
  have HSZ : Hid (sizZ l = N) := by show _ = _; rw [← hl, lvf_siz, hN]
  rw [hl] at HE HV
  clear hR hN hl
  go_enter Try.func4, Try.ntmps4
  go_upto_region 4 with (first | (go_at_call 11; (with_reducible refine RU.out.mono ?_); rintro e w1 ⟨d1, c1, rfl, hc1, hb1⟩; have B1 := hiddenN hb1; have LV := hiddenN (leaves_any R d1 c1 w1 hc1.at (fun x hx => (hc1.lt x hx).2) (by rw [HN.out]; omega)); rw [HN.out, HLV.out] at LV; clear hb1 hc1) | (go_at_call 10; (with_reducible refine LV.out.mono ?_); rintro e w2 ⟨g2, rfl, hc2, hb2⟩; have C2 := hiddenN hc2; have B2 := hiddenN hb2; clear hc2 hb2))
  have hww1 : w.heap.size ≤ w1.heap.size := B1.out.size
  have BW2 := hiddenN (B1.out.trans (B2.out.mono hww1))
  have NS2 : Hid (Nst (· < w2.heap.size) false w2 (some ⟨g2, 0, none⟩) l) := .inr ⟨g2, 0, rfl, NstR.mono (fun k hk => hk.2.lt) _ _ _ C2.out.nst⟩
  have CK := hiddenN (checkZ_any l false (some ⟨g2, 0, none⟩) N w2 NS2.out (by rw [HSZ.out]; omega))
  rw [HLN.out] at CK
  obtain ⟨ck, hck⟩ : ∃ q, chkZ l = q := ⟨_, rfl⟩
  have HCK := hiddenN hck
  rw [hck] at CK HE HV
  clear hck RU LV C2
  by_cases hc0 : ck = 0
  · subst hc0
    have HIN := hiddenN (chk_in HCK.out)
    go_upto_region 7 with (go_at_call 12; (with_reducible refine CK.out.mono ?_); rintro e w3 ⟨rfl, hb3⟩; have B3 := hiddenN hb3; clear hb3)
    clear CK
    have NB := hiddenN (newBook_any (fun _ => True) w3)
    go_upto_region 8 with (go_at_call 13; (with_reducible refine NB.out.mono ?_); rintro e w4 ⟨p, rfl, k4, b4⟩; have K4 := hiddenN k4; have B4 := hiddenN b4; clear k4 b4)
    clear NB
    have hw23 : w2.heap.size ≤ w3.heap.size := B3.out.size
    have hw34 : w3.heap.size ≤ w4.heap.size := B4.out.size
    have BW3 := hiddenN (BW2.out.trans (B3.out.mono BW2.out.size))
    have BW4 := hiddenN (BW3.out.trans (B4.out.mono BW3.out.size))
    have NS4 := hiddenN (((NS2.out.below B3.out).mono (G := (· < w3.heap.size)) fun k hk => Nat.lt_of_lt_of_le hk hw23).below B4.out)
    have NM := hiddenN (numbered_any l w3.heap.size (fun _ => True) p [] 0 (2 * N) false (some ⟨g2, 0, none⟩) N w4 K4.out NS4.out (fun _ _ => trivial) (by rw [HSZ.out]; omega) (by rw [HLN.out]; omega) HIN.out hw34)
    rw [HLN.out] at NM
    have HSS := hiddenN (sh_siz l)
    obtain ⟨l2, hl2⟩ : ∃ q, shZ l = q := ⟨_, rfl⟩
    have HL2 := hiddenN hl2
    rw [hl2] at HV HSS
    clear K4 hl2
    go_wp2_with (first | (go_at_call 16; (with_reducible refine NM.out.mono ?_); rintro e w5 ⟨a5, ns5, T5, rfl, q1, q2, q3, q4⟩; have SQ := hiddenN (shortest_any w3.heap.size (fun _ => True) p ([] ++ T5) (2 * N) l ns5 (some ⟨a5, 0, none⟩) N w5 q3 q2 q1.at (fun y hy => ⟨trivial, q1.int y hy⟩) (fun _ _ => trivial) (by rw [HLN.out]; omega) (by rw [q2.len, HLN.out]; exact Nat.le_refl _) (Nat.le_trans hw34 q4.size)); rw [q2.len, HLN.out] at SQ; have FR5 := hiddenN q4; clear q1 q2 q3 q4) | (go_at_call 15; (with_reducible refine SQ.out.mono ?_); rintro e w6 ⟨d6, c6, ns6, T6, q6, rfl, r1, r2, r3, r4, r5, r6⟩; rw [HL2.out] at r3 r5; have WQ := hiddenN (written_any l2 w3.heap.size (fun _ => True) p ([] ++ T5 ++ T6) q6 ns6 d6 c6 w6 r4 r3 r1 r2 (by have := HSZ.out; have := HSS.out; omega) (by have := r4.few; have := HLN.out; omega)); rw [← r3.len] at WQ; have FR6 := hiddenN (FR5.out.trans r6); have HN6 := hiddenN r3.len; clear r1 r2 r3 r4 r5 r6) | (go_at_call 14; (with_reducible refine WQ.out.mono ?_); rintro e w7 ⟨d7, c7, rfl, s1, s2⟩; have S1 := hiddenN s1; have S2 := hiddenN s2; clear s1 s2))
    rw [← HRE.out]
    have e : cmpV zs = l2 := HV.out
    have BW6 := BW4.out.trans ((FR6.out.below hw34).mono BW3.out.size)
    exact ⟨d7, c7, by rw [HE.out, e]; rfl, by rw [e]; exact S1.out.mono BW6.size, BW6.trans (S2.out.mono BW6.size)⟩
  · have hci : ((ck : Int) != 0) = true := by simp; omega
    have HVE : Hid (cmpV zs = []) := by show _ = _; rw [HV.out, if_neg hc0]
    go_wp2_with (go_at_call 12; (with_reducible refine CK.out.mono ?_); rintro e w3 ⟨rfl, hb3⟩; have B3 := hiddenN hb3; clear hb3)
    rw [← HRE.out]
    exact ⟨none, 0, by rw [HE.out, HVE.out]; rfl, by rw [HVE.out]; exact WrtZ.nil _ _, BW2.out.trans (B3.out.mono BW2.out.size)⟩
end Go.Proofs.Ytmeogapffdgjlab
namespace Go.Proofs.Ytmeogapffdgjlab
/-- Leaves that fire once. -/
def oncZ : List Lp → Nat
  | [] => 0
  | ⟨t, _, b⟩ :: r => (if b.isEmpty then (if t = 1 then 1 else 0) else oncZ b) + oncZ r
def on1 (x : Lp) : Nat := if x.body.isEmpty then (if x.times = 1 then 1 else 0) else oncZ x.body
theorem onc_cons (x : Lp) (r : List Lp) : oncZ (x :: r) = on1 x + oncZ r := by obtain ⟨t, n, b⟩ := x; rw [oncZ]; rfl
theorem onc_nil : oncZ [] = 0 := by rw [oncZ]
/-- All blocks go round twice at least, all leaves fire. -/
def bigZ : List Lp → Prop
  | [] => True
  | ⟨t, _, b⟩ :: r => 1 ≤ t ∧ (b.isEmpty = false → 2 ≤ t) ∧ bigZ b ∧ bigZ r
theorem big_cons {x : Lp} {r : List Lp} : bigZ (x :: r) ↔ 1 ≤ x.times ∧ (x.body.isEmpty = false → 2 ≤ x.times) ∧ bigZ x.body ∧ bigZ r := by obtain ⟨t, n, b⟩ := x; rw [bigZ]
theorem big_nil : bigZ [] := by rw [bigZ]; trivial
/-- What stays as Compress folds. -/
structure GudZ (n : Nat) (l : List Lp) : Prop where
  err : errZ 0 0 l = 0
  big : bigZ l
  tot : totZ l ≤ 2048
  lvs : lvsZ l ≤ n
  phi : hdsZ l + oncZ l ≤ n
theorem GudZ.chk {n : Nat} {l : List Lp} (h : GudZ n l) : chkZ l = 0 := chk_is h.err h.tot
end Go.Proofs.Ytmeogapffdgjlab
namespace Go.Proofs.Ytmeogapffdgjlab
open Go.ChangeShapes Go.WideShapes Go.ChangeAt Go.RowKit
theorem lvf_cons (p : Int × Int) (R : List (Int × Int)) : lvfZ (p :: R) = ⟨p.2, p.1, []⟩ :: lvfZ R := rfl
theorem lvf_err : ∀ (R : List (Int × Int)) (lv : Nat), lv + R.length ≤ 2048 → (∀ p ∈ R, 1 ≤ p.2 ∧ 0 ≤ p.1 ∧ p.1 < 32) → errZ 0 lv (lvfZ R) = 0
  | [], lv, _, _ => err_nil_z _ _
  | p :: R, lv, hl, h => by
    rw [List.length_cons] at hl
    obtain ⟨h1, h2, h3⟩ := h p (List.mem_cons_self ..)
    have hf : flwZ 0 lv p.2 p.1 true = 0 := by
      unfold flwZ
      rw [if_neg (by omega), if_neg (by simp), if_neg (by omega), if_neg (by simp), if_neg (by simp; omega)]
    rw [lvf_cons, errZ]
    simp only [List.isEmpty_nil, if_true, hf, ne_eq, not_true_eq_false, if_false]
    exact lvf_err R (lv + 1) (by omega) fun q hq => h q (List.mem_cons_of_mem _ hq)
theorem lvf_big : ∀ (R : List (Int × Int)), (∀ p ∈ R, 1 ≤ p.2) → bigZ (lvfZ R)
  | [], _ => big_nil
  | p :: R, h => by
    rw [lvf_cons]
    exact big_cons.2 ⟨h p (List.mem_cons_self ..), (fun e => by cases e), big_nil, lvf_big R fun q hq => h q (List.mem_cons_of_mem _ hq)⟩
theorem lvf_lvs : ∀ (R : List (Int × Int)), lvsZ (lvfZ R) = R.length
  | [] => lvs_nil
  | p :: R => by
    rw [lvf_cons, lvs_cons, lvf_lvs R, List.length_cons]
    show 1 + R.length = _
    omega
theorem lvf_phi : ∀ (R : List (Int × Int)), (∀ p ∈ R, 1 ≤ p.2) → hdsZ (lvfZ R) + oncZ (lvfZ R) = R.length
  | [], _ => by rw [show lvfZ [] = [] from rfl, hds_nil, onc_nil]; rfl
  | p :: R, h => by
    have h1 := h p (List.mem_cons_self ..)
    have h2 := lvf_phi R fun q hq => h q (List.mem_cons_of_mem _ hq)
    rw [lvf_cons, hds_cons, onc_cons, List.length_cons]
    have e1 : hd1 ⟨p.2, p.1, []⟩ = if 1 < p.2 then 1 else 0 := by unfold hd1; rw [hds_nil]; rfl
    have e2 : on1 ⟨p.2, p.1, []⟩ = if p.2 = 1 then 1 else 0 := rfl
    rw [e1, e2]
    by_cases q : 1 < p.2
    · rw [if_pos q, if_neg (by omega)]; omega
    · rw [if_neg q, if_pos (by omega)]; omega
theorem lvf_exp : ∀ (R : List (Int × Int)), expZ (lvfZ R) = flatsY R
  | [] => exp_nil
  | p :: R => by
    rw [lvf_cons, exp_cons, lvf_exp R]
    show repZ p.2.toNat [p.1] ++ flatsY R = _
    unfold flatsY repZ
    rw [List.flatMap_cons]
    congr 1
    simp
/-- May a list be compressed? -/
def godI (zs : List Int) : Bool := zs.all fun x => decide (0 ≤ x) && decide (x ≤ 31)
theorem god_iff (zs : List Int) : godI zs = true ↔ ∀ x ∈ zs, 0 ≤ x ∧ x ≤ 31 := by unfold godI; simp [List.all_eq_true]
theorem runs_exp (zs : List Int) : expZ (lvfZ (runsY zs)) = zs := by rw [lvf_exp]; exact (runs_is zs).flat
theorem cmp_good {zs : List Int} (h : godI zs = true) (hl : zs.length ≤ 2048) : GudZ (runsY zs).length (lvfZ (runsY zs)) := by
  rw [god_iff] at h
  have hp := (runs_is zs).pos
  have hf := (runs_is zs).flat
  have hr : ∀ p ∈ runsY zs, 1 ≤ p.2 ∧ 0 ≤ p.1 ∧ p.1 < 32 := fun p hq => by
    have h1 := hp p hq
    have h2 : p.1 ∈ zs := by
      rw [← hf, List.mem_flatMap]
      exact ⟨p, hq, by rw [List.mem_replicate]; exact ⟨by omega, rfl⟩⟩
    have := h _ h2
    exact ⟨h1, this.1, by omega⟩
  refine ⟨lvf_err _ 0 (by have := runs_few zs; omega) hr, lvf_big _ fun p hq => hp p hq, ?_, by rw [lvf_lvs]; exact Nat.le_refl _, by rw [lvf_phi _ fun p hq => hp p hq]; exact Nat.le_refl _⟩
  rw [← exp_len, runs_exp]
  exact hl
theorem cmp_e {zs : List Int} (h : godI zs = true) (hl : zs.length ≤ 2048) : cmpE zs = 0 := by
  unfold cmpE
  rw [if_neg (by omega)]
  exact (cmp_good h hl).chk
theorem cmp_v {zs : List Int} (h : godI zs = true) (hl : zs.length ≤ 2048) : cmpV zs = shZ (lvfZ (runsY zs)) := by
  unfold cmpV
  rw [cmp_e h hl, if_pos rfl]
end Go.Proofs.Ytmeogapffdgjlab
namespace Go.Proofs.Ytmeogapffdgjlab
def twoL : List Lp := [⟨1, 0, []⟩, ⟨1, 1, []⟩]
def fiveL : List Lp := [⟨1, 0, []⟩, ⟨1, 1, []⟩, ⟨1, 0, []⟩, ⟨1, 1, []⟩, ⟨1, 0, []⟩]
def twoB : Lp := ⟨2, 0, twoL⟩
def tenI : List Int := [0, 1, 0, 1, 2, 0, 1, 0, 1, 2]
def tenL : List Lp := [⟨1, 0, []⟩, ⟨1, 1, []⟩, ⟨1, 0, []⟩, ⟨1, 1, []⟩, ⟨1, 2, []⟩, ⟨1, 0, []⟩, ⟨1, 1, []⟩, ⟨1, 0, []⟩, ⟨1, 1, []⟩, ⟨1, 2, []⟩]
def forL : List Lp := [twoB, ⟨1, 2, []⟩, twoB, ⟨1, 2, []⟩]
def endL : List Lp := [⟨2, 0, [twoB, ⟨1, 2, []⟩]⟩]
theorem five_pas : pasZ 2 fiveL = [twoB, ⟨1, 0, []⟩] := by simp [pasZ, fiveL, psF, grpZ, alkZ, cntG, eqZ, samZ, twoB, twoL]
theorem five_siz : sizZ fiveL = 5 := by simp [fiveL, sizZ]
theorem five_chk : chkZ fiveL = 0 := by unfold chkZ; simp [fiveL, errZ, flwZ, totZ]
theorem five_chk2 : chkZ [twoB, ⟨1, 0, []⟩] = 0 := by unfold chkZ; simp [twoB, twoL, errZ, flwZ, lvsZ, totZ]
theorem five_e : fldE 2 fiveL = 0 := by
  unfold fldE
  rw [five_chk, if_neg (by decide), if_neg (by decide), show (2 : Int).toNat = 2 from rfl, five_pas, five_chk2]
theorem five_v : fldV 2 fiveL = [twoB, ⟨1, 0, []⟩] := by
  unfold fldV
  rw [five_e, if_pos rfl, show (2 : Int).toNat = 2 from rfl, five_pas]
theorem sh_fold {wd : Nat} {l l' : List Lp} (h : pasZ wd l = l') (hlt : l'.length < l.length) (hw : wd ≤ 16 ∧ 2 * wd ≤ l.length) (f : Nat) : shF (f + 1) wd l = shF f 1 l' := by
  rw [shF, if_pos hw, h, if_pos hlt]
theorem sh_stay {wd : Nat} {l : List Lp} (h : pasZ wd l = l) (hw : wd ≤ 16 ∧ 2 * wd ≤ l.length) (f : Nat) : shF (f + 1) wd l = shF f (wd + 1) l := by
  rw [shF, if_pos hw, h, if_neg (Nat.lt_irrefl _)]
theorem sh_end {wd : Nat} {l : List Lp} (hw : ¬ (wd ≤ 16 ∧ 2 * wd ≤ l.length)) (f : Nat) : shF f wd l = l := by
  cases f with
  | zero => rw [shF]
  | succ f => rw [shF, if_neg hw]
theorem ten_runs : lvfZ (runsY tenI) = tenL := by
  have : runsY tenI = [(0, 1), (1, 1), (0, 1), (1, 1), (2, 1), (0, 1), (1, 1), (0, 1), (1, 1), (2, 1)] := by decide
  rw [this]; rfl
theorem ten_p1 : pasZ 1 tenL = tenL := by simp [pasZ, tenL, psF, grpZ, alkZ, cntG, eqZ, samZ]
theorem ten_p2 : pasZ 2 tenL = forL := by simp [pasZ, tenL, psF, grpZ, alkZ, cntG, eqZ, samZ, forL, twoB, twoL]
theorem for_p1 : pasZ 1 forL = forL := by simp [pasZ, psF, grpZ, alkZ, cntG, eqZ, samZ, forL, twoB, twoL]
theorem for_p2 : pasZ 2 forL = endL := by simp [pasZ, psF, grpZ, alkZ, cntG, eqZ, samZ, forL, twoB, twoL, endL]
theorem ten_sh : shZ tenL = endL := by
  unfold shZ
  rw [show 18 * tenL.length + 17 = 193 + 1 + 1 + 1 + 1 from rfl, sh_stay ten_p1 (by decide), sh_fold ten_p2 (by decide) (by decide), sh_stay for_p1 (by decide), sh_fold for_p2 (by decide) (by decide), sh_end (by decide)]
theorem ten_chk : chkZ tenL = 0 := by unfold chkZ; simp [tenL, errZ, flwZ, totZ]
theorem ten_e : cmpE tenI = 0 := by
  unfold cmpE
  rw [ten_runs, ten_chk]; rfl
theorem ten_v : cmpV tenI = endL := by
  unfold cmpV
  rw [ten_e, if_pos rfl, ten_runs, ten_sh]
theorem nil_e : fldE 0 [⟨1, 0, []⟩] = 1 := by
  unfold fldE
  rw [show chkZ [⟨1, 0, []⟩] = 0 by unfold chkZ; simp [errZ, flwZ, totZ]]; rfl
theorem nil_v : fldV 0 [⟨1, 0, []⟩] = [] := by unfold fldV; rw [nil_e]; rfl
theorem big_e : cmpE [32] = 100 := by
  unfold cmpE
  rw [show lvfZ (runsY [32]) = [⟨1, 32, []⟩] from rfl, show chkZ [⟨1, 32, []⟩] = 100 by unfold chkZ; simp [errZ, flwZ]]; rfl
theorem big_v : cmpV [32] = [] := by unfold cmpV; rw [big_e]; rfl
theorem fold_same (R : List (Int × Int)) (x : Int) : ∀ (n : Nat) (c : Int), (List.replicate n x).foldl stepY (R ++ [(x, c)]) = R ++ [(x, c + n)]
  | 0, c => by simp
  | n + 1, c => by
    rw [List.replicate_succ, List.foldl_cons, step_same, fold_same R x n (c + 1)]
    congr 3
    omega
theorem fold_new (R : List (Int × Int)) (x : Int) {n : Nat} (hn : 1 ≤ n) (hR : R = [] ∨ ∃ R' p, R = R' ++ [p] ∧ p.1 ≠ x) : (List.replicate n x).foldl stepY R = R ++ [(x, (n : Int))] := by
  obtain ⟨k, rfl⟩ : ∃ k, n = k + 1 := ⟨n - 1, by omega⟩
  rw [List.replicate_succ, List.foldl_cons]
  have e : stepY R x = R ++ [(x, 1)] := by
    rcases hR with rfl | ⟨R', p, rfl, hp⟩
    · rfl
    · obtain ⟨p1, p2⟩ := p
      exact step_other hp
  rw [e, fold_same]
  congr 3
  omega
theorem eqZ_self (x : Lp) : eqZ x x = true := (eqZ_iff x x).2 rfl
theorem one_sh (A : Lp) : shZ [A] = [A] := by unfold shZ; rw [sh_end (by simp)]
theorem rep_runs {a : Int} {s : Nat} (hs : 1 ≤ s) : runsY (List.replicate s a) = [(a, (s : Int))] := by
  unfold runsY
  rw [fold_new [] a hs (.inl rfl)]
  rfl
theorem rep_god {a : Int} (ha : 0 ≤ a ∧ a ≤ 31) (s : Nat) : godI (List.replicate s a) = true := by
  rw [god_iff]
  intro x hx
  rw [(List.mem_replicate.1 hx).2]
  exact ha
theorem rep_cmp {a : Int} {s : Nat} (ha : 0 ≤ a ∧ a ≤ 31) (hs : 1 ≤ s) (hl : s ≤ 2048) : cmpE (List.replicate s a) = 0 ∧ cmpV (List.replicate s a) = [⟨(s : Int), a, []⟩] := by
  have h1 := rep_god ha s
  have h2 : (List.replicate s a).length ≤ 2048 := by rw [List.length_replicate]; exact hl
  refine ⟨cmp_e h1 h2, ?_⟩
  rw [cmp_v h1 h2, rep_runs hs]
  exact one_sh _
end Go.Proofs.Ytmeogapffdgjlab

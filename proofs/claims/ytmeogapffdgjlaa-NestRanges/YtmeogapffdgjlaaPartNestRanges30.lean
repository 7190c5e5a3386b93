/- Texts of one chain, laid one behind the other. -/
import Derived.Test.YtmeogapffdgjlaaPartNestRanges20
import Derived.Test.YtmeogapffdgjlaaPartNestRanges15
import Derived.Test.YtmeogapffdgjlaaPartNestRanges28
namespace Go.Proofs.Ytmeogapffdgjlaa
open Go.ChangeShapes Go.WideShapes Go.ChangeAt Go.RowKit
/-- A whole row behind a row of one's own: which block has changed. -/
theorem wpList_appR {w : World} {ops : Array Oper} {rest : List Oper} {o : Oper} {a : Act} {Q : Exit → Act → World → Prop} (hgd : o.guard = none) (s x : Operand) (ho : o.op = .call { callee := .builtin .append, args := #[s, x], argTypes := #[26, 26] })
    (B : Nat) (d0 : Option Addr) (c0 : Nat) (zs : List Int) (hs : a.eval s = .slice d0 zs.length c0) (hown : CapR B w d0 c0 zs) (ad : Addr) (c : Nat) (ys : List Int) (hx : a.eval x = .slice (some ad) ys.length c) (hne : 0 < ys.length) (hat : At w (some ad) ys) (hn : (zs.length + ys.length) * 8 ≤ 140737488355328) (hB : B ≤ w.heap.size) (n : Nat) (hnn : zs.length + ys.length = n)
    (h : ∀ d c' w', GrwN B w d0 (zs ++ ys) w' d c' → wpList Try.prog ops Q rest (a.put o.dst (.slice d n c')) w') : wpList Try.prog ops Q (o :: rest) a w := by
  subst hnn
  obtain ⟨i1, hi1, hy0, hy1, hy2⟩ := info_parts Try.info3
  refine wpList_append_told (P := Try.prog) w hgd s x 26 ho B 3 i1 (.int .i64 0) 1 8 Try.underlying26 hi1 hy0 hy1 hy2 rfl (by decide) (.slice d0 zs.length c0) zs.length _ hs hown ad ys.length c hne (ys.map (Value.int .i64)) hx (by simp) (lies_new hat) (ints_oneCell _ _) (by unfold maxLen; omega) (by omega) hB ?_
  intro v' w' h2 h3
  have h2' : w'.ownsRow B 3 1 v' (zs ++ ys).length ((zs ++ ys).map (Value.int .i64)) := by simpa using h2
  rcases h3 with ⟨g1, cap, e1, rfl, hg⟩ | ⟨cap, rfl, hg⟩
  · cases e1
    refine h _ _ w' ⟨by unfold CapR; simpa using h2', fun k hk hne => ?_, fun z hz => .inl hz, hg.size, hg.os, hg.tape, hg.output⟩
    exact hg.block k hk (fun e => by cases e; exact hne _ rfl rfl)
  · refine h _ _ w' ⟨by unfold CapR; simpa using h2', fun k hk hne => ?_, fun z hz => by cases hz; exact .inr (Nat.le_refl _), hg.size, hg.os, hg.tape, hg.output⟩
    exact hg.block k hk (fun e => by cases e)
def FltE (l : List Lp) (w : World) (e : Ending) (w' : World) : Prop := ∃ (d : Option Addr) (cc : Nat), e = .returned (.slice d (expZ l).length cc) ∧ CapR w.heap.size w' d cc (expZ l) ∧ Below w.heap.size w w'
def FltOK (l : List Lp) : Prop := ∀ (B : Nat) (m : Bool) (a : Option Addr) (c : Nat) (w : World), Nst (· < B) m w a l → B ≤ w.heap.size → posZ l → totZ l ≤ 2048 → sizZ l ≤ 1000000 → Calls Try.prog 38 #[.slice a l.length c] w (FltE l w)
set_option maxRecDepth 100000 in
set_option maxHeartbeats 16000000 in
theorem rflatZ_any (l : List Lp) : FltOK l := by
  refine nest_ind (fun l ih => ?_) l
  intro B m a c w hN hBs hp ht hs
  obtain ⟨RE, hRE⟩ : ∃ Q : Ending → World → Prop, FltE l w = Q := ⟨_, rfl⟩
  rw [hRE]
  have HRE := hiddenN hRE
  have IH := hiddenN ih
  have HP := hiddenN hp
  have HSZ := hiddenN hs
  have HTL := hiddenN ht
  obtain ⟨L, hL⟩ : ∃ L, l.length = L := ⟨_, rfl⟩
  have HL := hiddenN hL
  have hLm : L ≤ 1000000 := by have := len_siz l; omega
  have hLI : (L : Int) ≤ 1000000 := by omega
  have N0 := hiddenN (NsK.start hN)
  rw [hL]
  clear hRE ih hN hL hp hs ht
  go_enter Try.func38, Try.ntmps38
  go_upto_region 3 with fail
  go_loopg [3, 4] L (fun gk ov iv wr => ∃ (pre rest : List Lp) (k : Nat) (d : Option Addr) (n cc : Nat), l = pre ++ rest ∧ pre.length = k ∧ gk = rest.length ∧ iv = .int .i64 (k : Int) ∧ ov = .slice d n cc ∧ (expZ pre).length = n ∧ CapR w.heap.size wr d cc (expZ pre) ∧ Below w.heap.size w wr ∧ NsK (· < B) m wr a k rest)
  case atStart => exact ⟨[], l, 0, none, 0, 0, rfl, rfl, HL.out.symm, rfl, rfl, by rw [exp_nil]; rfl, by rw [exp_nil]; exact CapR.nil _ _, Below.refl _ _, N0.out⟩
  case round =>
    clear N0
    obtain ⟨pre, rest, k, d, n, cc, hl, hk, hgk, rfl, rfl, hn, hC, hB, hNs⟩ := hrel
    subst hgk
    have NS := hiddenN hNs
    have HL2 := hiddenN hl
    have HPK := hiddenN hk
    have HN := hiddenN hn
    have HC := hiddenN hC
    have HB := hiddenN hB
    have HLK : Hid (L = k + rest.length) := by show _ = _; rw [← HL.out, hl, List.length_append, hk]
    clear hNs hl hk hn hC hB
    cases rest with
    | nil =>
      have hki : ¬ ((k : Int) < (L : Int)) := by rw [HLK.out]; simp
      have e1 : pre = l := by rw [HL2.out, List.append_nil]
      rw [e1] at HN HC
      go_wp2
      rw [← HRE.out]
      exact ⟨d, cc, by rw [HN.out], HC.out, HB.out⟩
    | cons x r =>
      have hki : (k : Int) < (L : Int) := by rw [HLK.out]; simp; omega
      have hkL : k < L := by rw [HLK.out]; simp
      have hkm : (k : Int) ≤ 1000000 := by omega
      obtain ⟨b, o, a1, c1, rfl, q0, q1, q2, q3⟩ := NS.out.hd
      have hmem : x ∈ l := by rw [HL2.out]; exact List.mem_append_right _ (List.mem_cons_self ..)
      have hpx := HP.out
      rw [HL2.out, pos_app, pos_cons] at hpx
      obtain ⟨-, ht1, -, hpb, -⟩ := hpx
      obtain ⟨tn, htn⟩ : ∃ tn : Nat, x.times = (tn : Int) := ⟨x.times.toNat, by omega⟩
      have htn1 : 1 ≤ tn := by omega
      have hto : n + to1 x ≤ 2048 := by
        have q5 := tot_app pre (x :: r)
        have q7 := HTL.out
        have q8 := exp_len pre
        rw [HL2.out, q5, tot_cons] at q7
        have := HN.out
        omega
      have hsx := siz_mem hmem
      obtain ⟨L1, hL1⟩ : ∃ q, x.body.length = q := ⟨_, rfl⟩
      obtain ⟨nx, hnx⟩ : ∃ q, x.node = q := ⟨_, rfl⟩
      rw [htn] at q0
      rw [hnx] at q1
      rw [hL1] at q2
      have b1 := (Below.refl wr.heap.size wr).alloc (Nat.le_refl _) (.cells #[.int .i64 nx] 3)
      have X1 := hiddenN (blkA_new 3 wr #[.int .i64 nx])
      have C1 := hiddenN (HC.out.later b1)
      have B1 := hiddenN (HB.out.trans (b1.mono HB.out.size))
      have D1 : Hid (∀ y, d = some y → y.block < wr.heap.size) := fun y hy => (HC.out.lt y hy).2
      have NSW : Hid (NsK (· < B) m w (some ⟨b, o, none⟩) k (x :: r)) := NS.out.keep fun j hj => (HB.out.block j (Nat.lt_of_lt_of_le hj hBs)).symm
      have NX : Hid (Nst (· < B) m (wr.alloc (.cells #[.int .i64 nx] 3)) a1 x.body) := q3.keep fun j hj => b1.block j (Nat.lt_of_lt_of_le (Nat.lt_of_lt_of_le hj hBs) HB.out.size)
      have r0 : (wr.alloc (.cells #[.int .i64 nx] 3)).cell? ⟨b, o + k * 3 + 2, none⟩ = some (.slice a1 L1 c1) := (b1.cell (block_lt_of_cell q2)).trans q2
      go_upto_region 6 with fail
      have hob0 : wr.heap.size < (wr.alloc (.cells #[.int .i64 nx] 3)).heap.size := by rw [World.size_alloc]; omega
      obtain ⟨ob1, hob1⟩ : ∃ q, wr.heap.size = q := ⟨_, rfl⟩
      rw [hob1] at X1 D1 hob0 ⊢
      clear b1 q0 q1 q2 q3 NS HC HB hob1
      generalize wr.alloc (.cells #[.int .i64 nx] 3) = W1 at *
      by_cases hz : L1 = 0
      · subst hz
        have hbd2 : x.body = [] := List.eq_nil_of_length_eq_zero hL1
        have hem : x.body.isEmpty = true := empty_iff.2 hbd2
        have HX1 : Hid (ex1 x = repZ tn [nx]) := by show _ = _; unfold ex1; rw [if_pos hem, htn, Int.toNat_natCast, hnx]
        have HPT : Hid ((expZ pre).length + tn * 1 ≤ 2048) := by
          show _ ≤ _
          have q : to1 x = tn * 1 := by unfold to1; rw [if_pos hem, htn, Int.toNat_natCast]
          have := HN.out
          omega
        have A2 : Hid (At W1 (some ⟨ob1, 0, none⟩) [nx]) := by
          refine .inr ⟨ob1, 0, rfl, fun j hj => ?_⟩
          have hj0 : j = 0 := by simp at hj; omega
          subst hj0
          have y0 := X1.out.cell (k := 0) rfl
          simpa [nth] using y0
        have C2 := C1
        have B2 := B1
        have D2 : Hid (∀ y, d = some y → y.block ≠ ob1) := fun y hy e => by have := D1.out y hy; omega
        clear hmem ht1 hpb hto hsx hL1 hnx hbd2 hem
        have HTN := hiddenN htn
        obtain ⟨E1, hE⟩ : ∃ q, [nx] = q := ⟨_, rfl⟩
        have hEl : E1.length = 1 := by rw [← hE]; rfl
        have HEL := hiddenN hEl
        have hne : 0 < 1 := by omega
        rw [hE] at HX1 A2
        have hob := hob0
        clear hE hEl htn C1 B1 D1 X1 NX hob0
        have htI : (tn : Int) ≤ 2048 := by have := HPT.out; omega
        go_wp2
        go_loopg [3, 6] tn (fun gj ov jv wr => ∃ (j : Nat) (d : Option Addr) (n2 cc : Nat), j ≤ tn ∧ gj = tn - j ∧ jv = .int .i64 (j : Int) ∧ ov = .slice d n2 cc ∧ (expZ pre ++ repZ j E1).length = n2 ∧ CapR w.heap.size wr d cc (expZ pre ++ repZ j E1) ∧ Below w.heap.size w wr ∧ At wr (some ⟨ob1, 0, none⟩) E1 ∧ ob1 < wr.heap.size ∧ (∀ y, d = some y → y.block ≠ ob1))
        case atStart => exact ⟨0, d, n, cc, Nat.zero_le _, rfl, rfl, rfl, by rw [rep_zero, List.append_nil]; exact HN.out, by rw [rep_zero, List.append_nil]; exact C2.out, B2.out, A2.out, hob, D2.out⟩
        case round =>
          clear C2 B2 A2 D2 hob
          obtain ⟨j, d, n2, cc, hj, rfl, rfl, rfl, hn2, hC, hb, hA, hob, hD⟩ := hrel
          have HN2 := hiddenN hn2
          have HC := hiddenN hC
          have HB := hiddenN hb
          have HA := hiddenN hA
          have HD := hiddenN hD
          have NW := hiddenN (NSW.out.below (hb.mono hBs))
          obtain ⟨b9, o9, a9, c9, e9, p0, -, -, -⟩ := NW.out.hd
          cases e9
          rw [HTN.out] at p0
          have hlen : (repZ j E1).length = j * 1 := by rw [rep_len, HEL.out]
          have hn3 : n2 = (expZ pre).length + j * 1 := by rw [← hn2, List.length_append, hlen]
          clear hn2 hC hb hA hD hlen
          by_cases hjt : j < tn
          · have hjI : (j : Int) < (tn : Int) := by omega
            have hjl : (j + 1) * 1 ≤ tn * 1 := Nat.mul_le_mul_right _ hjt
            have hjn : (j + 1) * 1 = j * 1 + 1 := Nat.succ_mul _ _
            have hn4 : n2 + 1 ≤ 2048 := by have := HPT.out; omega
            have hBw : w.heap.size ≤ wr.heap.size := HB.out.size
            clear hjl hjn hn3
            go_wp2_with (at_builtin; refine wpList_appR rfl _ _ rfl w.heap.size d cc (expZ pre ++ repZ j E1) (by rw [HN2.out]; rfl) HC.out ⟨ob1, 0, none⟩ 1 E1 (by rw [HEL.out]; rfl) (by rw [HEL.out]; exact hne) HA.out (by rw [HN2.out, HEL.out]; omega) hBw (n2 + 1) (by rw [HN2.out, HEL.out]) ?_; intro d3 c3 W3 hg3; have HG := hiddenN hg3; clear hg3)
            have B3 := hiddenN (HB.out.trans (grwN_below HG.out hBw (fun y hy => (HC.out.lt y hy).1)))
            have A3 := hiddenN (HA.out.keep fun x hx => HG.out.keep _ (by cases hx; exact hob) (fun y hy e => HD.out y hy (by cases hx; exact e)))
            have ho3 : ob1 < W3.heap.size := Nat.lt_of_lt_of_le hob HG.out.size
            go_roundg (tn - (j + 1))
            case measure => omega
            case rel => exact ⟨j + 1, d3, n2 + 1, c3, by omega, rfl, by go_num, rfl, by rw [rep_snoc, ← List.append_assoc, List.length_append, HN2.out, HEL.out], by rw [rep_snoc, ← List.append_assoc]; exact HG.out.own, B3.out, A3.out, ho3, fun y hy e => (HG.out.new y hy).elim (fun q => HD.out y q e) (fun q => by omega)⟩
          · have ej : tn = j := by omega
            clear hn3
            subst ej
            have hjI : ¬ ((tn : Int) < (tn : Int)) := by omega
            have NT := hiddenN NW.out.tl
            go_wp2
            go_roundg r.length
            case measure => simp
            case rel => exact ⟨pre ++ [x], r, k + 1, d, n2, cc, by rw [HL2.out]; simp, by rw [List.length_append, HPK.out]; rfl, rfl, by go_num, rfl, by rw [exp_snoc, HX1.out]; exact HN2.out, by rw [exp_snoc, HX1.out]; exact HC.out, HB.out, NT.out⟩
      · have hbd2 : x.body ≠ [] := fun e => hz (by rw [← hL1, e]; rfl)
        have hem : ¬ x.body.isEmpty = true := fun e => hbd2 (empty_iff.1 e)
        have hzI : (L1 : Int) > 0 := by omega
        have htb : totZ x.body ≤ 2048 := by
          have q : to1 x = tn * totZ x.body := by unfold to1; rw [if_neg hem, htn, Int.toNat_natCast]
          have q2 : totZ x.body ≤ tn * totZ x.body := Nat.le_mul_of_pos_left _ htn1
          omega
        have hsb2 : sizZ x.body ≤ 1000000 := by have := HSZ.out; omega
        have FX : Hid (Calls Try.prog 38 #[.slice a1 L1 c1] W1 (FltE x.body W1)) := by
          have q := IH.out x hmem B m a1 c1 W1 NX.out (Nat.le_trans hBs B1.out.size) hpb htb hsb2
          rwa [hL1] at q
        unfold FltE at FX
        have HX1 : Hid (ex1 x = repZ tn (expZ x.body)) := by show _ = _; unfold ex1; rw [if_neg hem, htn, Int.toNat_natCast]
        have hel := exp_len x.body
        have hpo := pos_tot hpb hbd2
        have HPT : Hid ((expZ pre).length + tn * totZ x.body ≤ 2048) := by
          show _ ≤ _
          have q : to1 x = tn * totZ x.body := by unfold to1; rw [if_neg hem, htn, Int.toNat_natCast]
          have := HN.out
          omega
        obtain ⟨E1, hE⟩ : ∃ q, expZ x.body = q := ⟨_, rfl⟩
        rw [hE] at FX HX1 hel
        obtain ⟨el, hEl⟩ : ∃ q, E1.length = q := ⟨_, rfl⟩
        rw [hEl] at FX hel
        rw [← hel] at HPT hpo htb
        have HEL := hiddenN hEl
        have HTN := hiddenN htn
        have hne : 0 < el := by omega
        have helI : (el : Int) ≤ 2048 := by omega
        have htI : (tn : Int) ≤ 2048 := by
          have q := HPT.out
          have q2 : tn ≤ tn * el := Nat.le_mul_of_pos_right _ hne
          omega
        clear hmem ht1 hpb hto hsx hL1 hnx hbd2 hem hE hEl htn hel hpo htb hsb2 hz X1 NX
        go_upto_region 8 with (go_at_call 38; (with_reducible refine FX.out.mono ?_); rintro e W2 ⟨d2, cc2, rfl, hc2, b2⟩; have C9 := hiddenN hc2; have B9 := hiddenN b2; clear hc2 b2)
        obtain ⟨ob, rfl, ho1, hob⟩ := C9.out.there (by rw [HEL.out]; exact hne)
        have A2 := hiddenN C9.out.at
        have C2 := hiddenN (C1.out.later B9.out)
        have B2 := hiddenN (B1.out.trans (B9.out.mono B1.out.size))
        have D2 : Hid (∀ y, d = some y → y.block ≠ ob) := fun y hy e => by have := D1.out y hy; omega
        clear C9 C1 B1 D1 FX B9 r0 hob0
        go_wp2
        go_loopg [3, 6] tn (fun gj ov jv wr => ∃ (j : Nat) (d : Option Addr) (n2 cc : Nat), j ≤ tn ∧ gj = tn - j ∧ jv = .int .i64 (j : Int) ∧ ov = .slice d n2 cc ∧ (expZ pre ++ repZ j E1).length = n2 ∧ CapR w.heap.size wr d cc (expZ pre ++ repZ j E1) ∧ Below w.heap.size w wr ∧ At wr (some ⟨ob, 0, none⟩) E1 ∧ ob < wr.heap.size ∧ (∀ y, d = some y → y.block ≠ ob))
        case atStart => exact ⟨0, d, n, cc, Nat.zero_le _, rfl, rfl, rfl, by rw [rep_zero, List.append_nil]; exact HN.out, by rw [rep_zero, List.append_nil]; exact C2.out, B2.out, A2.out, hob, D2.out⟩
        case round =>
          clear C2 B2 A2 D2 hob
          obtain ⟨j, d, n2, cc, hj, rfl, rfl, rfl, hn2, hC, hb, hA, hob, hD⟩ := hrel
          have HN2 := hiddenN hn2
          have HC := hiddenN hC
          have HB := hiddenN hb
          have HA := hiddenN hA
          have HD := hiddenN hD
          have NW := hiddenN (NSW.out.below (hb.mono hBs))
          obtain ⟨b9, o9, a9, c9, e9, p0, -, -, -⟩ := NW.out.hd
          cases e9
          rw [HTN.out] at p0
          have hlen : (repZ j E1).length = j * el := by rw [rep_len, HEL.out]
          have hn3 : n2 = (expZ pre).length + j * el := by rw [← hn2, List.length_append, hlen]
          clear hn2 hC hb hA hD hlen
          by_cases hjt : j < tn
          · have hjI : (j : Int) < (tn : Int) := by omega
            have hjl : (j + 1) * el ≤ tn * el := Nat.mul_le_mul_right _ hjt
            have hjn : (j + 1) * el = j * el + el := Nat.succ_mul _ _
            have hn4 : n2 + el ≤ 2048 := by have := HPT.out; omega
            have hBw : w.heap.size ≤ wr.heap.size := HB.out.size
            clear hjl hjn hn3
            go_wp2_with (at_builtin; refine wpList_appR rfl _ _ rfl w.heap.size d cc (expZ pre ++ repZ j E1) (by rw [HN2.out]; rfl) HC.out ⟨ob, 0, none⟩ cc2 E1 (by rw [HEL.out]; rfl) (by rw [HEL.out]; exact hne) HA.out (by rw [HN2.out, HEL.out]; omega) hBw (n2 + el) (by rw [HN2.out, HEL.out]) ?_; intro d3 c3 W3 hg3; have HG := hiddenN hg3; clear hg3)
            have B3 := hiddenN (HB.out.trans (grwN_below HG.out hBw (fun y hy => (HC.out.lt y hy).1)))
            have A3 := hiddenN (HA.out.keep fun x hx => HG.out.keep _ (by cases hx; exact hob) (fun y hy e => HD.out y hy (by cases hx; exact e)))
            have ho3 : ob < W3.heap.size := Nat.lt_of_lt_of_le hob HG.out.size
            go_roundg (tn - (j + 1))
            case measure => omega
            case rel => exact ⟨j + 1, d3, n2 + el, c3, by omega, rfl, by go_num, rfl, by rw [rep_snoc, ← List.append_assoc, List.length_append, HN2.out, HEL.out], by rw [rep_snoc, ← List.append_assoc]; exact HG.out.own, B3.out, A3.out, ho3, fun y hy e => (HG.out.new y hy).elim (fun q => HD.out y q e) (fun q => by omega)⟩
          · have ej : tn = j := by omega
            clear hn3
            subst ej
            have hjI : ¬ ((tn : Int) < (tn : Int)) := by omega
            have NT := hiddenN NW.out.tl
            go_wp2
            go_roundg r.length
            case measure => simp
            case rel => exact ⟨pre ++ [x], r, k + 1, d, n2, cc, by rw [HL2.out]; simp, by rw [List.length_append, HPK.out]; rfl, rfl, by go_num, rfl, by rw [exp_snoc, HX1.out]; exact HN2.out, by rw [exp_snoc, HX1.out]; exact HC.out, HB.out, NT.out⟩
set_option maxRecDepth 100000 in
theorem rexpandZ_any (l : List Lp) (m : Bool) (a : Option Addr) (c : Nat) (w : World) (hN : Nst (· < w.heap.size) m w a l) (hs : sizZ l ≤ 1000000) : Calls Try.prog 12 #[.slice a l.length c] w (ExpE l w) := by
  have CK := hiddenN (rcheckZ_any l m a c w hN hs)
  have FX : Hid (chkZ l = 0 → ∀ u, Below w.heap.size w u → Calls Try.prog 38 #[.slice a l.length c] u (FltE l u)) := fun he u hu => rflatZ_any l w.heap.size m a c u (hN.below hu) hu.size (err_pos _ _ _ (chk_zero he).1) (chk_zero he).2 hs
  unfold FltE at FX
  obtain ⟨E, hE⟩ : ∃ q, chkZ l = q := ⟨_, rfl⟩
  rw [hE] at CK FX
  have HE := hiddenN hE
  obtain ⟨RE, hRE⟩ : ∃ Q, ExpE l w = Q := ⟨_, rfl⟩
  rw [hRE]
  have HRE := hiddenN hRE
  generalize l.length = L at *
  obtain ⟨n, hn⟩ : ∃ q, (expZ l).length = q := ⟨_, rfl⟩
  rw [hn] at FX
  have HNN := hiddenN hn
  clear hN hE hs hRE hn
  by_cases he : E = 0
  · subst he
    have FX1 := hiddenN (FX.out rfl)
    clear FX
    go_enter Try.func12, Try.ntmps12
    go_wp2_with (first
      | (go_at_call 37; (with_reducible refine CK.out.mono ?_); rintro e W1 ⟨rfl, b1⟩; have B1 := hiddenN b1; clear b1)
      | (go_at_call 38; (with_reducible refine (FX1.out W1 B1.out).mono ?_); rintro e W2 ⟨d, cc, rfl, hc, b2⟩; have C2 := hiddenN (hc.mono B1.out.size); have B2 := hiddenN (B1.out.trans (b2.mono B1.out.size)); clear hc b2))
    rw [← HRE.out]
    have ek : keptZ l = l := by unfold keptZ; rw [if_pos HE.out]
    exact ⟨d, cc, by rw [ek, HE.out, HNN.out]; rfl, by rw [ek]; exact C2.out, B2.out⟩
  · have hb : ((E : Int) != 0) = true := by simpa using he
    clear FX
    go_enter Try.func12, Try.ntmps12
    go_wp2_with (go_at_call 37; (with_reducible refine CK.out.mono ?_); rintro e W1 ⟨rfl, b1⟩; have B1 := hiddenN b1; clear b1)
    rw [← HRE.out]
    have ek : keptZ l = [] := by unfold keptZ; rw [if_neg (fun h => he (HE.out.symm.trans h))]
    exact ⟨none, 0, by rw [ek, HE.out, exp_nil]; rfl, by rw [ek, exp_nil]; exact CapR.nil _ _, B1.out⟩
end Go.Proofs.Ytmeogapffdgjlaa

/- Texts of one chain, laid one behind the other. -/
import Derived.Test.YtmeogapffdgjlaaPartLoopsExpands26
import Derived.Test.YtmeogapffdgjlaaPartLoopsExpands16
import Derived.Test.YtmeogapffdgjlaaPartLoopsExpands18
import Derived.Test.YtmeogapffdgjlaaPartLoopsExpands24
import Derived.Test.YtmeogapffdgjlaaPartLoopsExpands6
namespace Go.Proofs.Ytmeogapffdgjlaa
open Go.ChangeShapes Go.WideShapes Go.ChangeAt Go.RowKit
theorem lvf_cons (p : Int × Int) (R : List (Int × Int)) : lvfZ (p :: R) = ⟨p.2, p.1, []⟩ :: lvfZ R := rfl
theorem lvf_err : ∀ (R : List (Int × Int)) (lv : Nat), lv + R.length ≤ 2048 → (∀ p ∈ R, 1 ≤ p.2 ∧ 0 ≤ p.1 ∧ p.1 < 32) → errZ 0 lv (lvfZ R) = 0
  | [], lv, _, _ => err_nil_z _ _
  | p :: R, lv, hl, h => by
    rw [List.length_cons] at hl
    obtain ⟨h1, h2, h3⟩ := h p (List.mem_cons_self ..)
    have hf : flwZ 0 lv p.2 p.1 true = 0 := by
      unfold flwZ
      rw [if_neg (by omega), if_neg (by simp), if_neg (by omega), if_neg (by simp), if_neg (by simp; omega)]
    rw [lvf_cons, errZ]
    simp only [List.isEmpty_nil, if_true, hf, ne_eq, not_true_eq_false, if_false]
    exact lvf_err R (lv + 1) (by omega) fun q hq => h q (List.mem_cons_of_mem _ hq)
theorem lvf_big : ∀ (R : List (Int × Int)), (∀ p ∈ R, 1 ≤ p.2) → bigZ (lvfZ R)
  | [], _ => big_nil
  | p :: R, h => by
    rw [lvf_cons]
    exact big_cons.2 ⟨h p (List.mem_cons_self ..), (fun e => by cases e), big_nil, lvf_big R fun q hq => h q (List.mem_cons_of_mem _ hq)⟩
theorem lvf_lvs : ∀ (R : List (Int × Int)), lvsZ (lvfZ R) = R.length
  | [] => lvs_nil
  | p :: R => by
    rw [lvf_cons, lvs_cons, lvf_lvs R, List.length_cons]
    show 1 + R.length = _
    omega
theorem lvf_phi : ∀ (R : List (Int × Int)), (∀ p ∈ R, 1 ≤ p.2) → hdsZ (lvfZ R) + oncZ (lvfZ R) = R.length
  | [], _ => by rw [show lvfZ [] = [] from rfl, hds_nil, onc_nil]; rfl
  | p :: R, h => by
    have h1 := h p (List.mem_cons_self ..)
    have h2 := lvf_phi R fun q hq => h q (List.mem_cons_of_mem _ hq)
    rw [lvf_cons, hds_cons, onc_cons, List.length_cons]
    have e1 : hd1 ⟨p.2, p.1, []⟩ = if 1 < p.2 then 1 else 0 := by unfold hd1; rw [hds_nil]; rfl
    have e2 : on1 ⟨p.2, p.1, []⟩ = if p.2 = 1 then 1 else 0 := rfl
    rw [e1, e2]
    by_cases q : 1 < p.2
    · rw [if_pos q, if_neg (by omega)]; omega
    · rw [if_neg q, if_pos (by omega)]; omega
theorem lvf_exp : ∀ (R : List (Int × Int)), expZ (lvfZ R) = flatsY R
  | [] => exp_nil
  | p :: R => by
    rw [lvf_cons, exp_cons, lvf_exp R]
    show repZ p.2.toNat [p.1] ++ flatsY R = _
    unfold flatsY repZ
    rw [List.flatMap_cons]
    congr 1
    simp
/-- May a list be compressed? -/
def godI (zs : List Int) : Bool := zs.all fun x => decide (0 ≤ x) && decide (x ≤ 31)
theorem god_iff (zs : List Int) : godI zs = true ↔ ∀ x ∈ zs, 0 ≤ x ∧ x ≤ 31 := by unfold godI; simp [List.all_eq_true]
theorem runs_exp (zs : List Int) : expZ (lvfZ (runsY zs)) = zs := by rw [lvf_exp]; exact (runs_is zs).flat
theorem cmp_good {zs : List Int} (h : godI zs = true) (hl : zs.length ≤ 2048) : GudZ (runsY zs).length (lvfZ (runsY zs)) := by
  rw [god_iff] at h
  have hp := (runs_is zs).pos
  have hf := (runs_is zs).flat
  have hr : ∀ p ∈ runsY zs, 1 ≤ p.2 ∧ 0 ≤ p.1 ∧ p.1 < 32 := fun p hq => by
    have h1 := hp p hq
    have h2 : p.1 ∈ zs := by
      rw [← hf, List.mem_flatMap]
      exact ⟨p, hq, by rw [List.mem_replicate]; exact ⟨by omega, rfl⟩⟩
    have := h _ h2
    exact ⟨h1, this.1, by omega⟩
  refine ⟨lvf_err _ 0 (by have := runs_few zs; omega) hr, lvf_big _ fun p hq => hp p hq, ?_, by rw [lvf_lvs]; exact Nat.le_refl _, by rw [lvf_phi _ fun p hq => hp p hq]; exact Nat.le_refl _⟩
  rw [← exp_len, runs_exp]
  exact hl
theorem lvf_pos : ∀ (R : List (Int × Int)), posZ (lvfZ R) → ∀ p ∈ R, 0 ≤ p.1 ∧ p.1 < 32
  | [], _, _, h => by cases h
  | q :: R, h, p, hp => by
    rw [lvf_cons, pos_cons] at h
    rcases List.mem_cons.1 hp with rfl | hp
    · exact h.2.1
    · exact lvf_pos R h.2.2.2 p hp
theorem cmp_bad {zs : List Int} (h : ¬ (godI zs = true ∧ zs.length ≤ 2048)) : cmpE zs ≠ 0 := fun e => by
  unfold cmpE at e
  by_cases hl : 2048 < zs.length
  · rw [if_pos hl] at e; cases e
  · rw [if_neg hl] at e
    refine h ⟨(god_iff zs).2 fun x hx => ?_, by omega⟩
    have hp := err_pos _ 0 0 (chk_zero e).1
    have hf := (runs_is zs).flat
    rw [← hf, List.mem_flatMap] at hx
    obtain ⟨p, hp1, hp2⟩ := hx
    have h3 := lvf_pos _ hp p hp1
    rw [(List.mem_replicate.1 hp2).2]
    omega
theorem cmp_e {zs : List Int} (h : godI zs = true) (hl : zs.length ≤ 2048) : cmpE zs = 0 := by
  unfold cmpE
  rw [if_neg (by omega)]
  exact (cmp_good h hl).chk
theorem cmp_v {zs : List Int} (h : godI zs = true) (hl : zs.length ≤ 2048) : cmpV zs = shZ (lvfZ (runsY zs)) := by
  unfold cmpV
  rw [cmp_e h hl, if_pos rfl]
theorem cmp_gud {zs : List Int} (h : godI zs = true) (hl : zs.length ≤ 2048) : GudZ (runsY zs).length (cmpV zs) := by
  rw [cmp_v h hl]; exact (cmp_good h hl).sh
theorem cmp_exp {zs : List Int} (h : godI zs = true) (hl : zs.length ≤ 2048) : expZ (cmpV zs) = zs := by rw [cmp_v h hl, sh_exp, runs_exp]
theorem cmp_fix {zs : List Int} (h : godI zs = true) (hl : zs.length ≤ 2048) (v : Nat) (h1 : 1 ≤ v) (h2 : v ≤ 16) : pasZ v (cmpV zs) = cmpV zs := by rw [cmp_v h hl]; exact shZ_fix _ v h1 h2
theorem onc_siz : ∀ (l : List Lp), oncZ l ≤ sizZ l := by
  refine nest_one ?_ ?_
  · rw [onc_nil]; exact Nat.zero_le _
  · intro x r hb hr
    rw [onc_cons, siz_cons]
    unfold on1
    split
    · split <;> omega
    · omega
theorem onc_snoc (l : List Lp) (x : Lp) : oncZ (l ++ [x]) = oncZ l + on1 x := by rw [onc_app, onc_cons, onc_nil]; omega
set_option maxRecDepth 100000 in
set_option maxHeartbeats 8000000 in
theorem goodL_any (zs : List Int) (a : Option Addr) (c : Nat) (w : World) (hA : At w a zs) (hl : zs.length ≤ 140737488351232) : Calls Try.prog 28 #[.slice a zs.length c] w fun e w' => e = .returned (.bool (godI zs && decide (zs.length ≤ 2048))) ∧ w' = w := by
  obtain ⟨RE, hRE⟩ : ∃ Q : Ending → World → Prop, (fun e w' => e = Ending.returned (.bool (godI zs && decide (zs.length ≤ 2048))) ∧ w' = w) = Q := ⟨_, rfl⟩
  rw [hRE]
  have HRE := hiddenN hRE
  have HA := hiddenN hA
  obtain ⟨L, hL⟩ : ∃ L, zs.length = L := ⟨_, rfl⟩
  have HL := hiddenN hL
  rw [hL] at hl ⊢
  clear hRE hA hL
  go_enter Try.func28, Try.ntmps28
  go_upto_region 2 with fail
  go_loopg [3] (L + 1) (fun gk iv wr => ∃ (k : Nat), k ≤ L ∧ gk = L + 1 - k ∧ iv = .int .i64 (k : Int) ∧ godI zs = godI (zs.drop k) ∧ wr = w)
  case atStart => exact ⟨0, Nat.zero_le _, rfl, rfl, rfl, rfl⟩
  case round =>
    obtain ⟨k, hk, hgk, rfl, hg, rfl⟩ := hrel
    have HGD := hiddenN hg
    have HGK := hiddenN hgk
    clear hg hgk
    by_cases hlt : k < L
    · have hki : (k : Int) < (L : Int) := by omega
      rcases HA.out with h0 | ⟨b, o, rfl, hc⟩
      · have := HL.out; rw [h0] at this; simp at this; omega
      have c1 := hc k (by rw [HL.out]; exact hlt)
      have HDR : Hid (godI (zs.drop k) = (decide (0 ≤ nth zs k) && decide (nth zs k ≤ 31) && godI (zs.drop (k + 1)))) := by
        have h1 : k < zs.length := by rw [HL.out]; exact hlt
        show _ = _
        rw [List.drop_eq_getElem_cons h1]
        have : nth zs k = zs[k] := by unfold nth; rw [List.getD_eq_getElem?_getD, List.getElem?_eq_getElem h1]; rfl
        rw [this]
        rfl
      clear hc
      generalize nth zs k = x at *
      by_cases hx : x < 0
      · have HF : Hid (godI zs = false) := by show _ = _; rw [HGD.out, HDR.out, decide_eq_false (by omega)]; rfl
        go_wp2
        rw [← HRE.out]
        exact ⟨by rw [HF.out]; rfl, rfl⟩
      · by_cases hx2 : 31 < x
        · have HF : Hid (godI zs = false) := by show _ = _; rw [HGD.out, HDR.out, decide_eq_false (by omega : ¬ x ≤ 31), Bool.and_false]; rfl
          go_wp2
          rw [← HRE.out]
          exact ⟨by rw [HF.out]; rfl, rfl⟩
        · have HF : Hid (godI zs = godI (zs.drop (k + 1))) := by show _ = _; rw [HGD.out, HDR.out, decide_eq_true (by omega), decide_eq_true (by omega)]; rfl
          go_wp2
          go_roundg (L + 1 - (k + 1))
          case measure => have := HGK.out; omega
          case rel => exact ⟨k + 1, by omega, rfl, by go_num, HF.out, rfl⟩
    · have hki : ¬ ((k : Int) < (L : Int)) := by omega
      have HF : Hid (godI zs = true) := by show _ = _; rw [HGD.out, List.drop_eq_nil_of_le (by rw [HL.out]; omega)]; rfl
      by_cases h2 : L ≤ 2048
      · have h2i : (L : Int) ≤ 2048 := by omega
        go_wp2
        rw [← HRE.out]
        exact ⟨by rw [HF.out, HL.out, decide_eq_true h2]; rfl, rfl⟩
      · have h2i : ¬ ((L : Int) ≤ 2048) := by omega
        go_wp2
        rw [← HRE.out]
        exact ⟨by rw [HF.out, HL.out, decide_eq_false h2]; rfl, rfl⟩
def OncOK (l : List Lp) : Prop := ∀ (F : Nat → Prop) (m : Bool) (a : Option Addr) (c : Nat) (w : World), Nst F m w a l → sizZ l ≤ 1000000 → Calls Try.prog 31 #[.slice a l.length c] w fun e w' => e = .returned (.int .i64 (oncZ l : Int)) ∧ w' = w
set_option maxRecDepth 100000 in
set_option maxHeartbeats 8000000 in
theorem onceZ_any (l : List Lp) : OncOK l := by
  refine nest_ind (fun l ih => ?_) l
  intro F m a c w h1 hs
  obtain ⟨RE, hRE⟩ : ∃ Q : Ending → World → Prop, (fun e w' => e = Ending.returned (.int .i64 (oncZ l : Int)) ∧ w' = w) = Q := ⟨_, rfl⟩
  rw [hRE]
  have HRE := hiddenN hRE
  have IH := hiddenN ih
  have HSZ := hiddenN hs
  obtain ⟨L, hL⟩ : ∃ L, l.length = L := ⟨_, rfl⟩
  have hLm : L ≤ 1000000 := by have := len_siz l; omega
  have HL := hiddenN hL
  have N1 := hiddenN (NsK.start h1)
  rw [hL]
  clear hRE ih h1 hL hs
  go_enter Try.func31, Try.ntmps31
  go_upto_region 3 with fail
  go_loopg [3, 4] L (fun gk nv iv wr => ∃ (pre rest : List Lp) (k nn : Nat), l = pre ++ rest ∧ pre.length = k ∧ gk = rest.length ∧ oncZ pre = nn ∧ nv = .int .i64 (nn : Int) ∧ iv = .int .i64 (k : Int) ∧ NsK F m wr a k rest ∧ wr = w)
  case atStart => exact ⟨[], l, 0, 0, rfl, rfl, HL.out.symm, onc_nil, rfl, rfl, N1.out, rfl⟩
  case round =>
    clear N1
    obtain ⟨pre, rest, k, nn, hl, hk, hgk, hnn, rfl, rfl, hN1, rfl⟩ := hrel
    subst hgk
    have HL2 := hiddenN hl
    have HPK := hiddenN hk
    have HN1 := hiddenN hN1
    have HNN := hiddenN hnn
    have HLK : Hid (L = k + rest.length) := by show _ = _; rw [← HL.out, hl, List.length_append, hk]
    have hnm : nn ≤ 1000000 := by have h2 := onc_siz pre; have h3 := HSZ.out; rw [hl, siz_app] at h3; omega
    have hnmI : (nn : Int) ≤ 1000000 := by omega
    clear hl hk hN1 hnn
    cases rest with
    | nil =>
      have hki : ¬ ((k : Int) < (L : Int)) := by rw [HLK.out]; simp
      go_wp2
      rw [← HRE.out]
      exact ⟨by rw [HL2.out, List.append_nil, HNN.out], rfl⟩
    | cons x r =>
      have hki : (k : Int) < (L : Int) := by rw [HLK.out]; simp; omega
      have hkL : k < L := by rw [HLK.out]; simp
      have hkm : (k : Int) ≤ 1000000 := by omega
      obtain ⟨b, o, a1, c1, rfl, q0, q1, q2, q3⟩ := HN1.out.hd
      have hmem : x ∈ l := by rw [HL2.out]; exact List.mem_append_right _ (List.mem_cons_self ..)
      have hsx := siz_mem hmem
      have KX := hiddenN (IH.out x hmem F m a1 c1 wr q3 (by have := HSZ.out; omega))
      have HT := hiddenN HN1.out.tl
      have ob := onc_siz x.body
      obtain ⟨ox, hox⟩ : ∃ q, oncZ x.body = q := ⟨_, rfl⟩
      obtain ⟨M1, hM1⟩ : ∃ q, x.body.length = q := ⟨_, rfl⟩
      obtain ⟨tx, htx⟩ : ∃ q, x.times = q := ⟨_, rfl⟩
      rw [hM1, hox] at KX
      rw [htx] at q0
      rw [hM1] at q2
      have hom : ox ≤ 1000000 := by have := HSZ.out; omega
      have hadd : IntKind.i64.wrap ((nn : Int) + (ox : Int)) = ((nn + ox : Nat) : Int) := by rw [IntKind.wrap_i64]; omega
      have hadd1 : IntKind.i64.wrap ((nn : Int) + 1) = ((nn + 1 : Nat) : Int) := by rw [IntKind.wrap_i64]; omega
      by_cases hz : M1 = 0
      · have hbd : x.body.isEmpty = true := by
          cases h : x.body with
          | nil => rfl
          | cons y q => rw [h, List.length_cons] at hM1; omega
        subst hz
        by_cases ht : tx = 1
        · have HO : Hid (oncZ (pre ++ [x]) = nn + 1) := by show _ = _; rw [onc_snoc, HNN.out]; unfold on1; rw [hbd, htx, if_pos rfl, if_pos ht]
          subst ht
          clear q1 q3 hmem hsx ob hox hM1 htx hbd hom hadd KX HN1
          go_wp2
          go_roundg r.length
          case measure => simp
          case rel => exact ⟨pre ++ [x], r, k + 1, nn + 1, by rw [HL2.out]; simp, by rw [List.length_append, HPK.out]; rfl, rfl, HO.out, by first | rfl | go_num, by go_num, HT.out, rfl⟩
        · have HO : Hid (oncZ (pre ++ [x]) = nn) := by show _ = _; rw [onc_snoc, HNN.out]; unfold on1; rw [hbd, htx, if_pos rfl, if_neg ht]; rfl
          have htb : (tx == 1) = false := by simpa using ht
          clear q1 q3 hmem hsx ob hox hM1 htx hbd hom hadd KX HN1
          go_wp2
          go_roundg r.length
          case measure => simp
          case rel => exact ⟨pre ++ [x], r, k + 1, nn, by rw [HL2.out]; simp, by rw [List.length_append, HPK.out]; rfl, rfl, HO.out, rfl, by go_num, HT.out, rfl⟩
      · have hbd : x.body.isEmpty = false := by
          cases h : x.body with
          | nil => rw [h] at hM1; exact absurd hM1.symm hz
          | cons y q => rfl
        have hzi : (0 : Int) < (M1 : Int) := by omega
        have hzn : 0 < M1 := by omega
        have HO : Hid (oncZ (pre ++ [x]) = nn + ox) := by show _ = _; rw [onc_snoc, HNN.out]; unfold on1; rw [hbd, hox]; rfl
        clear q1 q3 hmem hsx ob hox hM1 htx hbd hom HN1
        go_wp2_with (go_at_call 31; (with_reducible refine KX.out.mono ?_); rintro e w2 ⟨rfl, rfl⟩)
        go_roundg r.length
        case measure => simp
        case rel => exact ⟨pre ++ [x], r, k + 1, nn + ox, by rw [HL2.out]; simp, by rw [List.length_append, HPK.out]; rfl, rfl, HO.out, by first | rfl | go_num, by go_num, HT.out, rfl⟩
theorem fld_fix {zs : List Int} (h : godI zs = true) (hl : zs.length ≤ 2048) {t : Int} (h1 : 1 ≤ t) (h2 : t ≤ 16) : fldE t (cmpV zs) = 0 ∧ fldV t (cmpV zs) = cmpV zs := by
  have e := cmp_fix h hl t.toNat (by omega) (by omega)
  have c := (cmp_gud h hl).chk
  have e1 : fldE t (cmpV zs) = 0 := by
    unfold fldE
    rw [if_neg (by rw [c]; decide), if_neg (by omega), e, c]
  refine ⟨e1, ?_⟩
  unfold fldV
  rw [e1, if_pos rfl, e]
theorem fld_arg {zs : List Int} (h : godI zs = true) (hl : zs.length ≤ 2048) {t : Int} (h1 : t < 1 ∨ 16 < t) : fldE t (cmpV zs) = 1 ∧ fldV t (cmpV zs) = [] := by
  have c := (cmp_gud h hl).chk
  have e1 : fldE t (cmpV zs) = 1 := by
    unfold fldE
    rw [if_neg (by rw [c]; decide), if_pos h1]
  refine ⟨e1, ?_⟩
  unfold fldV
  rw [e1, if_neg (by decide)]
set_option maxRecDepth 100000 in
set_option maxHeartbeats 16000000 in
theorem loopsExpands_walk (a : Option Addr) (len cap : Nat) (zs : List Int) (t : Int) (w : World) (h : Arg w a len cap zs) (_ : -9223372036854775808 ≤ t ∧ t ≤ 9223372036854775807) : Calls Try.prog 7 #[.slice a len cap, .int .i64 t] w fun e w' => e = .returned (.bool true) ∧ Below w.heap.size w w' := by
  obtain ⟨RE, hRE⟩ : ∃ Q : Ending → World → Prop, (fun e w' => e = .returned (.bool true) ∧ Below w.heap.size w w') = Q := ⟨_, rfl⟩
  rw [hRE]
  have HRE := hiddenN hRE
  have HA := hiddenN h
  have HZ := hiddenN h.size
  have hlm : len ≤ 140737488351232 := by have := h.reach; omega
  have IN : Hid (∀ V, Below w.heap.size w V → Calls Try.prog 27 #[.slice a len cap] V (CopiedC V len zs)) := fun V h => ints_own a zs len cap V (HA.out.below h)
  unfold CopiedC at IN
  have CO : Hid (∀ u x cx, At u x zs → Calls Try.prog 22 #[.slice x len cx] u (CmpE zs u)) := fun u x cx hx => by
    have := compress_any zs x cx u hx
    rwa [HZ.out] at this
  have GD : Hid (∀ u, Below w.heap.size w u → Calls Try.prog 28 #[.slice a len cap] u fun e w' => e = .returned (.bool (godI zs && decide (len ≤ 2048))) ∧ u = w') := fun u hu => by
    have := goodL_any zs a cap u (HA.out.below hu).lies (by rw [HZ.out]; exact hlm)
    rw [HZ.out] at this
    exact this.mono fun e w' q => ⟨q.1, q.2.symm⟩
  unfold CmpE at CO
  by_cases hg : godI zs = true ∧ len ≤ 2048
  · obtain ⟨hg1, hg2⟩ := hg
    rw [hg1, decide_eq_true hg2, Bool.and_self] at GD
    have hz2 : zs.length ≤ 2048 := by rw [HZ.out]; exact hg2
    have G := hiddenN (cmp_gud hg1 hz2)
    have HCH := hiddenN G.out.chk
    have HXP := hiddenN (cmp_exp hg1 hz2)
    have HF1 := hiddenN (fun h1 h2 => fld_fix hg1 hz2 (t := t) h1 h2)
    have HF2 := hiddenN (fun h1 => fld_arg hg1 hz2 (t := t) h1)
    have HSV : Hid (sizZ (cmpV zs) ≤ 1000000) := by show _ ≤ _; have := chk_siz HCH.out; omega
    have HDP : Hid (dpsZ 0 (cmpV zs) ≤ 11) := by show _ ≤ _; rw [dps_zero]; exact dep_small G.out.big G.out.tot
    have HPH := hiddenN G.out.phi
    have HLS := hiddenN G.out.lvs
    have HRF := hiddenN (runs_few zs)
    rw [cmp_e hg1 hz2] at CO
    have ONX := hiddenN (onceZ_any (cmpV zs))
    unfold OncOK at ONX
    have HSM := hiddenN ((sam_iff (cmpV zs) (cmpV zs)).2 rfl)
    obtain ⟨lv, hlv⟩ : ∃ q, cmpV zs = q := ⟨_, rfl⟩
    rw [hlv] at CO HCH HXP HF1 HF2 HSV HDP HPH HLS ONX HSM
    obtain ⟨VL, hVL⟩ : ∃ q, lv.length = q := ⟨_, rfl⟩
    have HVL := hiddenN hVL
    rw [hVL] at CO ONX
    have ME : Hid (∀ u B d cc, WrtZ B u d cc lv → Calls Try.prog 29 #[.slice d VL cc] u fun e w' => e = .returned (.tuple #[.agg #[.int .i64 (lvsZ lv : Int), .int .i64 (hdsZ lv : Int), .int .i64 (dpsZ 0 lv : Int), .int .i64 (totZ lv : Int)], .int .i64 0]) ∧ Below u.heap.size u w') := fun u B d cc h => by
      have := measZ_any lv false d cc u (h.nst.mono fun k hk => hk.2.lt) HSV.out
      unfold sizV at this
      rw [HVL.out, HCH.out, if_pos rfl] at this
      exact this
    have EX : Hid (∀ u B d cc, WrtZ B u d cc lv → Calls Try.prog 26 #[.slice d VL cc] u (ExpE lv u)) := fun u B d cc h => by
      have := expandZ_any lv false d cc u (h.nst.mono fun k hk => hk.2.lt) HSV.out
      rwa [HVL.out] at this
    unfold ExpE at EX
    rw [show keptZ lv = lv by unfold keptZ; rw [if_pos HCH.out], HCH.out, HXP.out, HZ.out] at EX
    have SI : Hid (∀ U x y cx cy, At U x zs → At U y zs → Calls Try.prog 16 #[.slice x len cx, .slice y len cy] U fun e w' => e = .returned (.bool true) ∧ Below U.heap.size U w') := fun U x y cx cy h1 h2 => by
      have := sameN U x y zs cx cy (by rw [HZ.out]; omega) h1 h2
      rwa [HZ.out] at this
    have RU : Hid (∀ u x cx, At u x zs → Calls Try.prog 30 #[.slice x len cx] u (RunE zs u)) := fun u x cx hx => by
      have := runsZ_any x zs cx u hx (by rw [HZ.out]; omega)
      rwa [HZ.out] at this
    unfold RunE at RU
    have FO : Hid (∀ u B d cc, WrtZ B u d cc lv → Calls Try.prog 17 #[.int .i64 t, .slice d VL cc] u (FolE t lv u)) := fun u B d cc h => by
      have := foldZ_any t lv false d cc u (h.nst.mono fun k hk => hk.2.lt) HSV.out
      rwa [HVL.out] at this
    unfold FolE at FO
    have ONC : Hid (∀ u B d cc, WrtZ B u d cc lv → ∀ n, Calls Try.prog 31 #[.slice d VL cc] (u.drewN n) fun e w' => e = .returned (.int .i64 (oncZ lv : Int)) ∧ u.drewN n = w') := fun u B d cc h n => by
      have := ONX.out _ _ d cc (u.drewN n) (h.later (drewQ u n)).nst HSV.out
      exact this.mono fun e w' q => ⟨q.1, q.2.symm⟩
    obtain ⟨rn, hrn⟩ : ∃ q, (runsY zs).length = q := ⟨_, rfl⟩
    obtain ⟨s0, hs0⟩ : ∃ q, lvsZ lv = q := ⟨_, rfl⟩
    obtain ⟨s1, hs1⟩ : ∃ q, hdsZ lv = q := ⟨_, rfl⟩
    obtain ⟨s2, hs2⟩ : ∃ q, dpsZ 0 lv = q := ⟨_, rfl⟩
    obtain ⟨s3, hs3⟩ : ∃ q, totZ lv = q := ⟨_, rfl⟩
    obtain ⟨on, hon⟩ : ∃ q, oncZ lv = q := ⟨_, rfl⟩
    rw [hrn] at RU HPH HLS HRF
    rw [hs0] at ME HLS
    rw [hs1] at ME HPH
    rw [hs2] at ME HDP
    rw [hs3] at ME
    rw [hon] at ONC HPH
    have h1 : s0 ≤ rn := HLS.out
    have h2 : s1 + on ≤ rn := HPH.out
    have h3 : s2 ≤ 11 := HDP.out
    have h4 : rn ≤ 2048 := by have := HRF.out; rw [HZ.out] at this; omega
    have O0 := hiddenN (Below.refl w.heap.size w)
    clear hRE h hlv hVL hrn hs0 hs1 hs2 hs3 hon ONX HPH HLS HRF HDP G hg1 hz2
    go_enter Try.func7, Try.ntmps7
    go_upto_region 4 with (first | (go_at_call 28; (with_reducible refine (GD.out V2 O2.out).mono ?_); rintro e V3 ⟨rfl, hv3⟩; subst hv3) | (go_at_call 22; (with_reducible refine (CO.out V1 d1 c1 C1.out.at).mono ?_); rintro e V2 ⟨d2, c2, rfl, hw2, b⟩; have W2 := hiddenN (hw2.mono O1.out.size); have O2 := hiddenN (belowT O1.out b); clear hw2 b C1 O1) | (go_at_call 27; (with_reducible refine (IN.out w O0.out).mono ?_); rintro e V1 ⟨d1, c1, rfl, hc1, b⟩; have C1 := hiddenN hc1; have O1 := hiddenN (belowT O0.out b); clear hc1 b))
    go_upto_region 5 with (go_at_call 29; (with_reducible refine (ME.out V2 _ d2 c2 W2.out).mono ?_); rintro e V3 ⟨rfl, b⟩; have W3 := hiddenN (W2.out.later b); have O3 := hiddenN (belowT O2.out b); clear b)
    clear W2 O2 ME GD
    have b := (Below.refl V3.heap.size V3).alloc (Nat.le_refl _) (.cells #[.int .i64 (s0 : Int), .int .i64 (s1 : Int), .int .i64 (s2 : Int), .int .i64 (s3 : Int)] 47)
    have O4 := hiddenN (belowT O3.out b)
    have W4 := hiddenN (W3.out.later b)
    have X4 := hiddenN (blkA_new 47 V3 #[.int .i64 (s0 : Int), .int .i64 (s1 : Int), .int .i64 (s2 : Int), .int .i64 (s3 : Int)])
    obtain ⟨sb, hsb⟩ : ∃ q, V3.heap.size = q := ⟨_, rfl⟩
    rw [hsb] at X4 ⊢
    clear b hsb O3 W3
    generalize V3.alloc (.cells #[.int .i64 (s0 : Int), .int .i64 (s1 : Int), .int .i64 (s2 : Int), .int .i64 (s3 : Int)] 47) = V4 at *
    go_upto_region 6 with (go_at_call 26; (with_reducible refine (EX.out V4 _ d2 c2 W4.out).mono ?_); rintro e V5 ⟨d5, c5, rfl, hx5, b⟩; have C5 := hiddenN hx5; have W5 := hiddenN (W4.out.later b); have X5 := hiddenN (X4.out.below b); have O5 := hiddenN (belowT O4.out b); clear hx5 b)
    clear W4 X4 O4 EX
    have A5 := hiddenN (HA.out.below O5.out).lies
    go_upto_region 8 with (go_at_call 16; (with_reducible refine (SI.out V5 d5 a c5 cap C5.out.at A5.out).mono ?_); rintro e V6 ⟨rfl, b⟩; have W6 := hiddenN (W5.out.later b); have X6 := hiddenN (X5.out.below b); have O6 := hiddenN (belowT O5.out b); clear b)
    clear W5 X5 O5 SI C5 A5
    go_upto_region 9 with (first | (go_at_call 30; (with_reducible refine (RU.out V7 d7 c7 C7.out.at).mono ?_); rintro e V8 ⟨d8, c8, rfl, hx8, b⟩; have W8 := hiddenN (W7.out.later b); have X8 := hiddenN (X7.out.below b); have O8 := hiddenN (belowT O7.out b); clear hx8 b) | (go_at_call 27; (with_reducible refine (IN.out V6 O6.out).mono ?_); rintro e V7 ⟨d7, c7, rfl, hc7, b⟩; have C7 := hiddenN hc7; have W7 := hiddenN (W6.out.later b); have X7 := hiddenN (X6.out.below b); have O7 := hiddenN (belowT O6.out b); clear hc7 b))
    clear W6 X6 O6 W7 X7 O7 C7 IN RU
    have ON := hiddenN (ONC.out V8 _ d2 c2 W8.out)
    have z0 := X8.out.cell (k := 0) rfl
    have z1 := X8.out.cell (k := 1) rfl
    have z2 := X8.out.cell (k := 2) rfl
    simp only [List.getElem_toArray, List.getElem_cons_zero, List.getElem_cons_succ] at z0 z1 z2
    have g0 : ¬ ((rn : Int) < (s0 : Int)) := by omega
    have hadd : IntKind.i64.wrap ((s1 : Int) + (on : Int)) = (s1 : Int) + (on : Int) := by rw [IntKind.wrap_i64]; omega
    have g1 : ¬ ((rn : Int) < (s1 : Int) + (on : Int)) := by omega
    have g2 : ¬ ((11 : Int) < (s2 : Int)) := by omega
    clear h1 h2 h3 h4 X8 ONC
    generalize (s0 : Int) = x0 at *
    generalize (s1 : Int) = x1 at *
    generalize (on : Int) = xo at *
    generalize (s2 : Int) = x2 at *
    have f0 : decide ((rn : Int) < x0) = false := decide_eq_false g0
    have f1 : decide ((rn : Int) < x1 + xo) = false := decide_eq_false g1
    have f2 : decide (11 < x2) = false := decide_eq_false g2
    go_quiet (first | (go_at_call 31; (with_reducible refine (ON.out _).mono ?_); rintro e w' ⟨rfl, rfl⟩; exact ⟨rfl, _, rfl⟩))
    have b := drewQ V8 nq
    have W9 := hiddenN (W8.out.later b)
    have O9 := hiddenN (belowT O8.out b)
    clear b z0 z1 z2 ON W8 O8
    generalize V8.drewN nq = V9 at *
    by_cases ht : 1 ≤ t ∧ t ≤ 16
    · obtain ⟨ht1, ht2⟩ := ht
      have e := HF1.out ht1 ht2
      rw [e.1, e.2, HVL.out] at FO
      clear e
      have SL : Hid (∀ u, Below V9.heap.size V9 u → ∀ B d cc, WrtZ B u d cc lv → Calls Try.prog 19 #[.slice d2 VL c2, .slice d VL cc] u fun e w' => e = .returned (.bool true) ∧ ∃ n, u.drewN n = w') := fun u hu B d cc hw => by
        have := same_anyZ lv lv _ _ false false d2 c2 d cc u (W9.out.later hu).nst hw.nst HSV.out HSV.out
        rw [HVL.out, HSM.out] at this
        exact this.mono fun e w' q => ⟨q.1, by obtain ⟨n, hn⟩ := q.2; exact ⟨n, hn.symm⟩⟩
      go_upto_region 12 with (go_at_call 17; (with_reducible refine (FO.out V9 _ d2 c2 W9.out).mono ?_); rintro e V10 ⟨d10, c10, rfl, hw10, b⟩; have K10 := hiddenN b; have Y10 := hiddenN hw10; have O10 := hiddenN (belowT O9.out b); clear hw10 b)
      clear FO
      go_wp2_with (first | (go_at_call 19; (with_reducible refine (SL.out V11 K11.out _ d10 c10 Y11.out).mono ?_); rintro e V12 ⟨rfl, n12, hn⟩; have O12 : Hid (Below w.heap.size w V12) := (by show Below _ _ _; rw [← hn]; exact belowT O11.out (drewQ _ _)); clear hn) | (go_at_call 20; (with_reducible refine (awakeL_any V10).mono ?_); rintro e V11 ⟨rfl, b⟩; have K11 := hiddenN (belowT K10.out b); have Y11 := hiddenN (Y10.out.later b); have O11 := hiddenN (belowT O10.out b); clear b))
      rw [← HRE.out]
      exact ⟨by first | rfl | simp, O12.out⟩
    · have e := HF2.out (by omega)
      rw [e.1, e.2, List.length_nil] at FO
      clear e
      by_cases ht1 : 1 ≤ t
      · have ht2 : ¬ t ≤ 16 := by omega
        clear ht
        go_upto_region 12 with (go_at_call 17; (with_reducible refine (FO.out V9 _ d2 c2 W9.out).mono ?_); rintro e V10 ⟨d10, c10, rfl, hw10, b⟩; have O10 := hiddenN (belowT O9.out b); clear hw10 b)
        go_wp2_with (go_at_call 20; (with_reducible refine (awakeL_any V10).mono ?_); rintro e V11 ⟨rfl, b⟩; have K11 := hiddenN b; have O11 := hiddenN (belowT O10.out b); clear b)
        rw [← HRE.out]
        exact ⟨by first | rfl | simp, O11.out⟩
      · clear ht
        go_upto_region 12 with (go_at_call 17; (with_reducible refine (FO.out V9 _ d2 c2 W9.out).mono ?_); rintro e V10 ⟨d10, c10, rfl, hw10, b⟩; have O10 := hiddenN (belowT O9.out b); clear hw10 b)
        go_wp2_with (go_at_call 20; (with_reducible refine (awakeL_any V10).mono ?_); rintro e V11 ⟨rfl, b⟩; have K11 := hiddenN b; have O11 := hiddenN (belowT O10.out b); clear b)
        rw [← HRE.out]
        exact ⟨by first | rfl | simp, O11.out⟩
  · have hgb : (godI zs && decide (len ≤ 2048)) = false := by
      cases q : (godI zs && decide (len ≤ 2048)) with
      | false => rfl
      | true => rw [Bool.and_eq_true, decide_eq_true_eq] at q; exact absurd q hg
    rw [hgb] at GD
    have hE := cmp_bad (zs := zs) (by rw [HZ.out]; exact hg)
    have hV : cmpV zs = [] := by unfold cmpV; rw [if_neg hE]
    rw [hV, List.length_nil] at CO
    obtain ⟨E, hEE⟩ : ∃ q, cmpE zs = q := ⟨_, rfl⟩
    rw [hEE] at CO hE
    have hEi : ((E : Int) != 0) = true := by simp; omega
    have O0 := hiddenN (Below.refl w.heap.size w)
    clear hRE h hgb hg hV hEE hE
    go_enter Try.func7, Try.ntmps7
    go_upto_region 3 with (first | (go_at_call 28; (with_reducible refine (GD.out V2 O2.out).mono ?_); rintro e V3 ⟨rfl, hv3⟩; subst hv3) | (go_at_call 22; (with_reducible refine (CO.out V1 d1 c1 C1.out.at).mono ?_); rintro e V2 ⟨d2, c2, rfl, hw2, b⟩; have O2 := hiddenN (belowT O1.out b); clear hw2 b C1 O1) | (go_at_call 27; (with_reducible refine (IN.out w O0.out).mono ?_); rintro e V1 ⟨d1, c1, rfl, hc1, b⟩; have C1 := hiddenN hc1; have O1 := hiddenN (belowT O0.out b); clear hc1 b))
    clear GD CO IN
    go_wp2_with (go_at_call 20; (with_reducible refine (awakeL_any V2).mono ?_); rintro e V3 ⟨rfl, b⟩; have K3 := hiddenN b; have O3 := hiddenN (belowT O2.out b); clear b)
    rw [← HRE.out]
    exact ⟨by first | rfl | simp, O3.out⟩
end Go.Proofs.Ytmeogapffdgjlaa

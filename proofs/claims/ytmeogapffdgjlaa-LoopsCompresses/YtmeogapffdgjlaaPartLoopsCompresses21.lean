/- Texts of one chain, laid one behind the other. -/
import Derived.Test.YtmeogapffdgjlaaPartLoopsCompresses20
import Derived.Maps.AppendAt
import Derived.Test.YtmeogapffdgjlaaPartLoopsCompresses13
namespace Go.Proofs.Ytmeogapffdgjlaa
open Go.ChangeShapes Go.WideShapes Go.ChangeAt Go.RowKit Go.Shelf
attribute [local go_sem] Oper.semAt_some
/-- The nest that All keeps. -/
def keptZ (l : List Lp) : List Lp := if chkZ l = 0 then l else []
/-- What All answers: a function value over a box that holds a copy. -/
structure AllZ (B : Nat) (w : World) (kb : Nat) (l : List Lp) : Prop where
  lo : B ≤ kb
  box : ∃ (q : Option Addr) (c : Nat), BlkA 22 kb w #[.slice q (keptZ l).length c] ∧ Nst (fun k => B ≤ k ∧ TyZ w k) false w q (keptZ l)
theorem AllZ.later {B : Nat} {w w' : World} {kb : Nat} {l : List Lp} (h : AllZ B w kb l) (hb : Below w.heap.size w w') : AllZ B w' kb l := by
  obtain ⟨h1, q, c, h2, h3⟩ := h
  exact ⟨h1, q, c, h2.below hb, (h3.keep fun k hk => hb.block k hk.2.lt).mono fun k hk => ⟨hk.1, hk.2.keep (hb.block k hk.2.lt)⟩⟩
/-- A box that holds a row of numbers of a call's own, while they are collected. -/
structure ColZ (B : Nat) (w0 W0 : World) (lb : Nat) (pre : List Int) (W : World) : Prop where
  box : ∃ v, Boxed W lb 26 v ∧ W.ownsRow B 3 1 v pre.length (pre.map (Value.int .i64)) ∧ (v = .slice none 0 0 → pre = [])
  below : Below B w0 W
  keeps : KpZ (TyZ W0) W0 W
theorem ColZ.own {B : Nat} {w0 W0 : World} {lb : Nat} (hB : B ≤ W0.heap.size) (hw : B ≤ w0.heap.size) : OwnFrom W0.heap.size (ColZ B w0 W0 lb) := by
  intro s W W' row h hg hr
  obtain ⟨h1, h2, h3⟩ := h
  refine ⟨holdsRow_own B lb 26 3 1 (fun pre : List Int => pre.length) (fun pre => pre.map (Value.int .i64)) (fun pre v => v = .slice none 0 0 → pre = []) s W W' row h1 hg (fun r e => (hr r e).2), ?_, ?_⟩
  · exact h2.grown hg (Nat.le_trans hw h2.size) (fun k e => Nat.le_trans hB (hr k e).1)
  · refine h3.trans ⟨⟨hg.size, fun k hk => ?_⟩, fun k cs hk => ?_⟩
    · obtain ⟨cs, hk⟩ := hk
      have := h3.2 k cs hk
      refine hg.block k this.lt (fun e => ?_)
      obtain ⟨-, o, ho, hc⟩ := hr k e.symm
      rw [show W.heap[k]? = _ from this] at ho
      cases ho; cases hc
    · refine hk.keep (hg.block k hk.lt (fun e => ?_))
      obtain ⟨-, o, ho, hc⟩ := hr k e.symm
      rw [show W.heap[k]? = _ from hk] at ho
      cases ho; cases hc
/-- One more number. -/
theorem ColZ.step {B : Nat} {w0 W0 W w1 : World} {lb : Nat} {pre : List Int} {x : Int} {v v' : Value} {tmp : Obj} (h : ColZ B w0 W0 lb pre W) (hv : Boxed W lb 26 v) (hrow : W.ownsRow B 3 1 v pre.length (pre.map (Value.int .i64))) (hlb : B ≤ lb) (hBW : B ≤ W.heap.size) (hv' : v' ≠ .slice none 0 0)
    (hown' : w1.ownsRow B 3 1 v' (pre.length + 1) (pre.map (Value.int .i64) ++ [.int .i64 x])) (hgrow : (W.alloc tmp).grownBy w1 v.ownBlock) :
    Boxed w1 lb 26 v ∧ KeepsFrom W0.heap.size W (w1.setCell ⟨lb, 0, none⟩ v') ∧ KpZ (TyZ W0) W (w1.setCell ⟨lb, 0, none⟩ v') ∧ ColZ B w0 W0 lb (pre ++ [x]) (w1.setCell ⟨lb, 0, none⟩ v') := by
  obtain ⟨hv1, hv2, hr2, hk2, hb2⟩ := hv.appended (by decide) hrow hBW hlb hown' hgrow
  have hty : ∀ k cs, BlkA 57 k W cs → BlkA 57 k (w1.setCell ⟨lb, 0, none⟩ v') cs := fun k cs hk => by
    have a1 : BlkA 57 k (W.alloc tmp) cs := hk.below ((Below.refl _ _).alloc (Nat.le_refl _) tmp)
    have n1 : some k ≠ v.ownBlock := by
      rcases (hrow.alloc tmp).2 with ⟨rfl, _⟩ | ⟨g, cap, cur, rfl, _, hgb, _⟩
      · simp [Value.ownBlock]
      · intro e
        obtain rfl : k = g := by simpa [Value.ownBlock] using e
        have := (show (W.alloc tmp).heap[k]? = _ from a1).symm.trans hgb
        simp at this
    have a2 : BlkA 57 k w1 cs := a1.keep (hgrow.block k a1.lt n1)
    refine a2.keep (Below.heap_setCell _ _ _ _ ?_)
    intro e
    have e' : k = lb := e
    subst e'
    have := (show w1.heap[k]? = _ from a2).symm.trans hv1
    simp at this
  have hkp : KpZ (TyZ W0) W (w1.setCell ⟨lb, 0, none⟩ v') := by
    refine ⟨⟨hb2.size, fun k hk => ?_⟩, hty⟩
    obtain ⟨cs, hk⟩ := hk
    have q1 := h.keeps.2 k cs hk
    exact (show _ = _ from hty k cs q1).trans (show W.heap[k]? = _ from q1).symm
  refine ⟨hv1, hk2.from _, hkp, ⟨⟨v', hv2, ?_, fun e => absurd e hv'⟩, h.below.trans hb2, h.keeps.trans hkp⟩⟩
  simpa using hr2
attribute [local go_sem] Oper.semAt_some
theorem row_slice {w : World} {B e size n : Nat} {v : Value} {xs : List Value} (h : w.ownsRow B e size v n xs) : ∃ d c, v = .slice d n c := by
  rcases h.2 with ⟨hv, hn⟩ | ⟨g, cap, cur, hv, -⟩
  · exact ⟨none, 0, by rw [hv, hn]⟩
  · exact ⟨_, _, hv⟩
end Go.Proofs.Ytmeogapffdgjlaa
namespace Go.Proofs.Ytmeogapffdgjlaa
open Go.ChangeShapes Go.WideShapes Go.ChangeAt Go.RowKit
theorem Try.infoLs : (Try.prog.info? 22).map (fun i => (i.zero, i.size, i.bytes)) = some (some (.slice none 0 0), 1, 24) := by kernel_rfl
def valR (r : RwL) : Value := .slice r.a r.Z.length r.c
theorem rel_few : ∀ (l : List Lp) (S : List Lv) (Rs : List RwL), RelR l S Rs → Rs.length ≤ sizZ l := by
  refine nest_one (fun S Rs h => by rw [(rel_nil.1 h).2]; exact Nat.zero_le _) fun x r hb hr S Rs h => ?_
  obtain ⟨s, S', R1, R2, -, rfl, -, -, -, h2, h3⟩ := rel_cons.1 h
  rw [siz_cons, List.length_append]
  have := hr _ _ h2
  rcases h3 with ⟨-, rfl⟩ | ⟨-, S0, R0, rfl, -, h4⟩
  · rw [List.length_nil]; omega
  · have := hb _ _ h4
    rw [List.length_append, List.length_singleton]
    omega
def LstE (Bq : Nat) (vs : List Value) (w : World) (e : Ending) (w' : World) : Prop := ∃ d c, e = .returned (.slice d vs.length c) ∧ w'.ownsRow Bq 22 1 (.slice d vs.length c) vs.length vs ∧ Below Bq w w'
def LstOK (l : List Lp) : Prop := ∀ (S : List Lv) (Rs : List RwL) (B Bq : Nat) (a : Option Addr) (c : Nat) (d : Option Addr) (cc : Nat) (vs : List Value) (w : World), CapZ B w a c S → RelR l S Rs → (∀ r ∈ Rs, CapZ B w r.a r.c r.Z) → (∀ x, a = some x → x.block < Bq) → (∀ r ∈ Rs, ∀ x, r.a = some x → x.block < Bq) → w.ownsRow Bq 22 1 (.slice d vs.length cc) vs.length vs → Bq ≤ w.heap.size → vs.length + sizZ l + 1 ≤ 1000000 → Calls Try.prog 42 #[.slice a l.length c, .slice d vs.length cc] w (LstE Bq (vs ++ (Rs ++ [(⟨a, c, S⟩ : RwL)]).map valR) w)
theorem wpList_appLs {w : World} {ops : Array Oper} {rest : List Oper} {o : Oper} {act : Act} {Q : Exit → Act → World → Prop} (hgd : o.guard = none) (s x : Operand) (ho : o.op = .call { callee := .builtin .append, args := #[s, x], argTypes := #[70, 70] })
    (Bq : Nat) (d : Option Addr) (c : Nat) (vs : List Value) (n : Nat) (hn : vs.length = n) (hs : act.eval s = .slice d n c) (hown : w.ownsRow Bq 22 1 (.slice d vs.length c) vs.length vs) (g : Nat) (a : Option Addr) (k cc : Nat) (hx : act.eval x = .slice (some ⟨g, 0, none⟩) 1 1) (hc : w.cell? ⟨g, 0, none⟩ = some (.slice a k cc)) (hb : n ≤ 1000000) (hB : Bq ≤ w.heap.size)
    (h : ∀ d' c' w', w'.ownsRow Bq 22 1 (.slice d' (n + 1) c') (n + 1) (vs ++ [.slice a k cc]) → Below Bq w w' → wpList Try.prog ops Q rest (act.put o.dst (.slice d' (n + 1) c')) w') : wpList Try.prog ops Q (o :: rest) act w := by
  subst hn
  obtain ⟨i0, hi, hz0, hz1, hz2⟩ := info_parts Try.infoLs
  refine wpList_append_own _ hgd s x 70 ho Bq 22 i0 (.slice none 0 0) 1 24 Try.underlying70 hi hz0 hz1 hz2 rfl (by decide) _ vs.length vs hs hown ⟨g, 0, none⟩ 1 1 [.slice a k cc] hx rfl (fun j u hu => by
    match j, hu with
    | 0, hu =>
      simp at hu
      subst hu
      simpa [Addr.add] using hc) (fun u hu => by simp at hu; subst hu; rfl) (by unfold maxLen; omega) (by omega) hB ?_
  intro v' w1 hown1 hgrow _
  obtain ⟨d', c', rfl⟩ := row_slice hown1
  refine h d' c' w1 hown1 ((Below.refl _ _).grown hgrow hB (fun j hj => ?_))
  cases d with
  | none => cases hj
  | some y =>
    rcases hown.2 with ⟨e1, -⟩ | ⟨g1, cap, cur, e1, hg1, -⟩
    · cases e1
    · cases e1; cases hj; exact hg1
set_option maxRecDepth 100000 in
set_option maxHeartbeats 16000000 in
theorem listsZ_any (l : List Lp) : LstOK l := by
  refine nest_ind (fun l ih => ?_) l
  intro S Rs B Bq a c d cc vs w hC hR hO ha hl hV hBq hs
  obtain ⟨RE, hRE⟩ : ∃ Q : Ending → World → Prop, LstE Bq (vs ++ (Rs ++ [(⟨a, c, S⟩ : RwL)]).map valR) w = Q := ⟨_, rfl⟩
  rw [hRE]
  have HRE := hiddenN hRE
  have IH := hiddenN ih
  have HC := hiddenN hC
  have HO := hiddenN hO
  have HA := hiddenN ha
  have HLT := hiddenN hl
  have HV := hiddenN hV
  have HSZ := hiddenN hs
  have HFW := hiddenN (rel_few l S Rs hR)
  have HSL := hiddenN (rel_len hR)
  have HR := hiddenN hR
  obtain ⟨L, hL⟩ : ∃ L, l.length = L := ⟨_, rfl⟩
  have HL := hiddenN hL
  have hLm : L ≤ 1000000 := by have := len_siz l; omega
  have hLI : (L : Int) ≤ 1000000 := by omega
  obtain ⟨nv, hnv⟩ : ∃ q, vs.length = q := ⟨_, rfl⟩
  have HNV := hiddenN hnv
  rw [hL, hnv]
  clear hRE ih hC hR hO ha hl hV hs hL hnv
  go_enter Try.func42, Try.ntmps42
  go_upto_region 2 with fail
  go_loopg [1, 5] L (fun gk av iv wr => ∃ (rest : List Lp) (k : Nat) (S1 S2 : List Lv) (R1 R2 : List RwL) (d : Option Addr) (n cc : Nat), S = S1 ++ S2 ∧ Rs = R1 ++ R2 ∧ S1.length = k ∧ gk = rest.length ∧ (∀ x ∈ rest, x ∈ l) ∧ k + rest.length = L ∧ R1.length + sizZ rest ≤ sizZ l ∧ RelR rest S2 R2 ∧ iv = .int .i64 (k : Int) ∧ av = .slice d n cc ∧ (vs ++ R1.map valR).length = n ∧ wr.ownsRow Bq 22 1 (.slice d (vs ++ R1.map valR).length cc) (vs ++ R1.map valR).length (vs ++ R1.map valR) ∧ Below Bq w wr)
  case atStart => exact ⟨l, 0, [], S, [], Rs, d, nv, cc, rfl, rfl, rfl, HL.out.symm, fun _ h => h, by rw [HL.out, Nat.zero_add], by rw [List.length_nil]; omega, HR.out, rfl, rfl, by rw [List.map_nil, List.append_nil]; exact HNV.out, by rw [List.map_nil, List.append_nil]; exact HV.out, Below.refl _ _⟩
  case round =>
    obtain ⟨rest, k, S1, S2, R1, R2, d, n, cc, hS, hRs, hk, hgk, hmem, hkL, hsz, hRl, rfl, rfl, hn, hV, hb⟩ := hrel
    subst hgk
    have HS := hiddenN hS
    have HRs := hiddenN hRs
    have HK := hiddenN hk
    have HME := hiddenN hmem
    have HKL := hiddenN hkL
    have HRl := hiddenN hRl
    have HN := hiddenN hn
    have HV2 := hiddenN hV
    have HB := hiddenN hb
    have CW9 := hiddenN (HC.out.keep fun x hx => hb.block _ (HA.out x hx))
    have hn6 : n ≤ 1000000 := by
      have q2 := HSZ.out
      rw [← hn, List.length_append, List.length_map]
      omega
    have HZ9 := hiddenN hsz
    clear hS hRs hk hmem hRl hn hV hb hsz
    cases rest with
    | nil =>
      have hki : ¬ ((k : Int) < (L : Int)) := by rw [← HKL.out]; simp
      obtain ⟨e1, e2⟩ := rel_nil.1 HRl.out
      subst e1 e2
      have eS : S1.length = S.length := by rw [HS.out, List.append_nil]
      have hkl : L = k := by rw [← HKL.out]; simp
      have bA := (Below.refl wr.heap.size wr).alloc (Nat.le_refl _) (.cells #[.slice a L c] 22)
      have XA := blkA_new 22 wr #[.slice a L c]
      have u0 := XA.cell (k := 0) rfl
      simp only [List.getElem_toArray, List.getElem_cons_zero] at u0
      have VA := hiddenN (World.ownsRow.alloc HV2.out (.cells #[.slice a L c] 22))
      have hBA : Bq ≤ (wr.alloc (.cells #[.slice a L c] 22)).heap.size := Nat.le_trans (Nat.le_trans hBq HB.out.size) bA.size
      have BA := hiddenN bA
      clear bA XA
      clear hkl eS
      go_wp2_with (at_builtin; refine wpList_appLs rfl _ _ rfl Bq d cc (vs ++ R1.map valR) n HN.out rfl VA.out wr.heap.size a L c rfl u0 hn6 hBA ?_; intro d2 c2 W2 hv b; have V2 := hiddenN hv; have B2 := hiddenN b; clear hv b)
      rw [← HRE.out]
      have e3 : vs ++ (Rs ++ [(⟨a, c, S⟩ : RwL)]).map valR = (vs ++ R1.map valR) ++ [.slice a L c] := by
        rw [HRs.out, List.append_nil, List.map_append, ← List.append_assoc]
        congr 1
        show [Value.slice a S.length c] = _
        rw [HSL.out, HL.out]
      have e4 : (vs ++ (Rs ++ [(⟨a, c, S⟩ : RwL)]).map valR).length = n + 1 := by rw [e3, List.length_append, HN.out]; rfl
      refine ⟨d2, c2, by rw [e4], ?_, (HB.out.trans ((BA.out.mono (Nat.le_trans hBq HB.out.size)).trans B2.out))⟩
      rw [e4, e3]
      exact V2.out
    | cons x r =>
      have hki : (k : Int) < (L : Int) := by rw [← HKL.out]; simp; omega
      have hkL2 : k < L := by rw [← HKL.out]; simp
      have hkm : (k : Int) ≤ 1000000 := by omega
      obtain ⟨s, S', Q1, Q2, e1, e2, h1, h2, h3, h4, h5⟩ := rel_cons.1 HRl.out
      subst e1 e2
      have hS0 : S ≠ [] := fun e => by have := HS.out; rw [e] at this; have := congrArg List.length this; simp at this
      obtain ⟨g, rfl⟩ := CW9.out.there hS0
      have hkS : k < S.length := by rw [HSL.out, HL.out]; exact hkL2
      have q2 := CW9.out.cell (k := k) (j := 2) hkS (by decide)
      have eN : nthZ S k = s := by
        unfold nthZ
        rw [HS.out, List.getD_eq_getElem?_getD, ← HK.out, List.getElem?_append_right (Nat.le_refl _), Nat.sub_self]
        rfl
      rw [eN, show celZ s 2 = .slice s.a s.k s.c from rfl, h3] at q2
      have HMX := hiddenN (HME.out x (List.mem_cons_self ..))
      have HSX := siz_mem HMX.out
      obtain ⟨L1, hL1⟩ : ∃ q, x.body.length = q := ⟨_, rfl⟩
      obtain ⟨sa, hsa⟩ : ∃ q, s.a = q := ⟨_, rfl⟩
      obtain ⟨sc, hsc⟩ : ∃ q, s.c = q := ⟨_, rfl⟩
      rw [hL1, hsa, hsc] at q2
      have NX : Hid (∀ y ∈ r, y ∈ l) := fun y hy => HME.out y (List.mem_cons_of_mem _ hy)
      have HH4 := hiddenN h4
      have KN : Hid (k + 1 + r.length = L) := by show _ = _; have := HKL.out; rw [List.length_cons] at this; omega
      have ES : Hid (S = (S1 ++ [s]) ++ S') := by show _ = _; rw [HS.out, List.append_assoc]; rfl
      by_cases hz : L1 = 0
      · subst hz
        have hbd : x.body = [] := List.eq_nil_of_length_eq_zero hL1
        have eQ : Q1 = [] := by
          rcases h5 with ⟨-, q⟩ | ⟨q, -⟩
          · exact q
          · exact absurd hbd q
        subst eQ
        clear h1 h2 h3 h4 h5 hbd eN hkS hS0 hL1 hsa hsc HSX
        go_wp2
        go_roundg r.length
        case measure => simp
        case rel => exact ⟨r, k + 1, S1 ++ [s], S', R1, Q2, d, n, cc, ES.out, by rw [HRs.out]; rfl, by rw [List.length_append, HK.out]; rfl, rfl, NX.out, KN.out, by have := HZ9.out; rw [siz_cons] at this; omega, HH4.out, by go_num, rfl, HN.out, HV2.out, HB.out⟩
      · have hzI : (L1 : Int) > 0 := by omega
        have hbd : x.body ≠ [] := fun e => hz (by rw [← hL1, e]; rfl)
        rcases h5 with ⟨q, -⟩ | ⟨-, S0, R0, eQ, eL, hR0⟩
        · exact absurd q hbd
        subst eQ
        have hin : ∀ r9 ∈ R0 ++ [⟨s.a, s.c, S0⟩], r9 ∈ Rs := fun r9 h9 => by rw [HRs.out]; exact List.mem_append_right _ (List.mem_append_left _ h9)
        have htop : (⟨s.a, s.c, S0⟩ : RwL) ∈ Rs := hin _ (List.mem_append_right _ (List.mem_cons_self ..))
        have hbl : ∀ r9 ∈ Rs, CapZ B wr r9.a r9.c r9.Z := fun r9 h9 => (HO.out r9 h9).keep fun y hy => HB.out.block _ (HLT.out r9 h9 y hy)
        have LX := hiddenN (IH.out x HMX.out S0 R0 B Bq s.a s.c d cc (vs ++ R1.map valR) wr (hbl _ htop) hR0 (fun r9 h9 => hbl r9 (hin r9 (List.mem_append_left _ h9))) (HLT.out _ htop) (fun r9 h9 => HLT.out r9 (hin r9 (List.mem_append_left _ h9))) HV2.out (Nat.le_trans hBq HB.out.size) (by
          have q3 := HSZ.out
          have q4 := HN.out
          have q5 := HZ9.out
          rw [siz_cons] at q5
          rw [List.length_append, List.length_map] at q4 ⊢
          omega))
        have hcnt : (R1 ++ (R0 ++ [(⟨s.a, s.c, S0⟩ : RwL)])).length + sizZ r ≤ sizZ l := by
          have q5 := HZ9.out
          have q6 := rel_few _ _ _ hR0
          rw [siz_cons] at q5
          rw [List.length_append, List.length_append, List.length_singleton]
          omega
        have HCN := hiddenN hcnt
        have eV : (vs ++ R1.map valR) ++ (R0 ++ [(⟨s.a, s.c, S0⟩ : RwL)]).map valR = vs ++ (R1 ++ (R0 ++ [(⟨s.a, s.c, S0⟩ : RwL)])).map valR := by rw [List.map_append (l₁ := R1), List.append_assoc]
        rw [eV] at LX
        have ER : Hid (Rs = (R1 ++ (R0 ++ [(⟨s.a, s.c, S0⟩ : RwL)])) ++ Q2) := by show _ = _; rw [HRs.out]; simp only [List.append_assoc]
        generalize R1 ++ (R0 ++ [(⟨s.a, s.c, S0⟩ : RwL)]) = RN at *
        unfold LstE at LX
        obtain ⟨nn, hnn⟩ : ∃ q, (vs ++ RN.map valR).length = q := ⟨_, rfl⟩
        rw [hnn, HN.out, hL1, hsa, hsc] at LX
        have HNN := hiddenN hnn
        clear h1 h2 h3 h4 hR0 hin htop hbl eL hbd eN hkS hS0 hL1 hsa hsc HSX hcnt eV hnn
        go_wp2_with (go_at_call 42; (with_reducible refine LX.out.mono ?_); rintro e W2 ⟨d2, c2, rfl, hv, b⟩; have V2 := hiddenN hv; have B2 := hiddenN (HB.out.trans b); clear hv b)
        go_roundg r.length
        case measure => simp
        case rel => exact ⟨r, k + 1, S1 ++ [s], S', RN, Q2, d2, nn, c2, ES.out, ER.out, by rw [List.length_append, HK.out]; rfl, rfl, NX.out, KN.out, HCN.out, HH4.out, by go_num, rfl, HNN.out, by rw [HNN.out]; exact V2.out, B2.out⟩
end Go.Proofs.Ytmeogapffdgjlaa

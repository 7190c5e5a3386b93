/- Texts of one chain, laid one behind the other. -/
import Derived.Test.YtmeogapffdgjlaaPartNestRanges13
import Derived.RangeFuncNested
import Derived.RangeFuncBound
import Derived.RangeFuncCalls
import Derived.RangeFuncLeaves
import Derived.RangeFuncBox
import Derived.Shelf.Abstract
import Derived.Shelf.RegionOpen
import Derived.WalkKit
import Derived.OwnWalkIn
import Derived.TacticsInMore
import Derived.LoopNIn
import Derived.LoopIn
namespace Go.Proofs.Ytmeogapffdgjlaa
open Go.ChangeShapes Go.WideShapes Go.ChangeAt Go.RowKit Go.Shelf
attribute [local go_sem] Oper.semAt_some
theorem roomZ (k : Nat) : Fence.wide.room k := fun d h => by cases h
theorem RoundIn.anyZ {m m' : Nat} {P : Program} {l : Nat} {f : FuncId} {tmps : Array Value} {assign body : Code} {w : World} {R : Ending → World → Prop} (h : RoundIn Fence.wide m P l f tmps assign body w R) : RoundIn Fence.wide m' P l f tmps assign body w R := ⟨h.1, fun c cs _ => h.2 c cs (roomZ _)⟩
theorem YieldAt.anyZ {m : Nat} (m' : Nat) {P : Program} {l : Nat} {args : Array Value} {W : World} {R : Ending → World → Prop} (h : YieldAt Fence.wide m P l args W R) : YieldAt Fence.wide m' P l args W R := by
  obtain ⟨fn, tmps, assign, body, hy, hR⟩ := h
  exact ⟨fn, tmps, assign, body, hy, RoundIn.anyZ hR⟩
/-- What a round keeps: the blocks of F, and all rows and boxes of loops. -/
def KpZ (F : Nat → Prop) (W W' : World) : Prop := (W.heap.size ≤ W'.heap.size ∧ ∀ k, F k → W'.heap[k]? = W.heap[k]?) ∧ ∀ k cs, BlkA 57 k W cs → BlkA 57 k W' cs
theorem KpZ.refl (F : Nat → Prop) (W : World) : KpZ F W W := ⟨⟨Nat.le_refl _, fun _ _ => rfl⟩, fun _ _ h => h⟩
theorem KpZ.trans {F : Nat → Prop} {A B C : World} (h : KpZ F A B) (k : KpZ F B C) : KpZ F A C := ⟨⟨Nat.le_trans h.1.1 k.1.1, fun i hi => (k.1.2 i hi).trans (h.1.2 i hi)⟩, fun i cs hi => k.2 i cs (h.2 i cs hi)⟩
theorem KpZ.of_below {F : Nat → Prop} {A B : World} (h : Below A.heap.size A B) (hn : ∀ k, F k → k < A.heap.size) : KpZ F A B := ⟨⟨h.size, fun k hk => h.block k (hn k hk)⟩, fun _ _ hi => hi.below h⟩
/-- What ranges over: what it is told of each round. -/
def YldZ (l0 : Nat) (F : Nat → Prop) (N : Nat) (J Jx : List Int → World → Prop) : Prop := ∀ (m : Nat) (pre : List Int) (x : Int) (W : World), J pre W → pre.length < N → YieldAt Fence.wide m Try.prog l0 #[.int .i64 x] W fun e W' => (e = .returned (.bool true) ∧ J (pre ++ [x]) W' ∧ KpZ F W W') ∨ (e = .returned (.bool false) ∧ Jx (pre ++ [x]) W')
def TelE (F : Nat → Prop) (J Jx : List Int → World → Prop) (pre E : List Int) (W : World) (e : Ending) (W' : World) : Prop := (e = .returned (.bool true) ∧ J (pre ++ E) W' ∧ KpZ F W W') ∨ (e = .returned (.bool false) ∧ ∃ q, q <+: E ∧ Jx (pre ++ q) W')
/-- An invariant that does not mind new blocks. -/
def NewZ (J : List Int → World → Prop) : Prop := ∀ pre W W', J pre W → Below W.heap.size W W' → J pre W'
def TelOK (l : List Lp) : Prop := ∀ (l0 : Nat) (F : Nat → Prop) (N : Nat) (J Jx : List Int → World → Prop), NewZ J → YldZ l0 F N J Jx → N ≤ 1000000 → ∀ (m : Bool) (a : Option Addr) (c : Nat) (pre : List Int) (W : World), Nst F m W a l → (∀ k, F k → k < W.heap.size) → sizZ l ≤ 1000000 → posZ l → J pre W → pre.length + totZ l ≤ N → Calls Try.prog 41 #[.slice a l.length c, .func (.yield l0) #[] #[]] W (TelE F J Jx pre (expZ l) W)
set_option maxRecDepth 100000 in
set_option maxHeartbeats 4000000 in
theorem tellOnceZ_any (x : Lp) (hT : TelOK x.body) (l0 : Nat) (F : Nat → Prop) (N : Nat) (J Jx : List Int → World → Prop) (hJ : NewZ J) (hY : YldZ l0 F N J Jx) (hN9 : N ≤ 1000000) (m : Bool) (a : Option Addr) (c : Nat) (pre : List Int) (W : World) (hN : Nst F m W a x.body) (hn : ∀ k, F k → k < W.heap.size) (hs : sizZ x.body ≤ 1000000) (hp : posZ x.body) (h0 : J pre W) (hL : pre.length + (if x.body.isEmpty then 1 else totZ x.body) ≤ N) :
    Calls Try.prog 56 #[.agg #[.int .i64 x.times, .int .i64 x.node, .slice a x.body.length c], .func (.yield l0) #[] #[]] W (TelE F J Jx pre (if x.body.isEmpty then [x.node] else expZ x.body) W) := by
  obtain ⟨t, n, bd⟩ := x
  simp only at *
  have ba := (Below.refl W.heap.size W).alloc (Nat.le_refl _) (.cells #[.int .i64 t, .int .i64 n, .slice a bd.length c] 57)
  have X := hiddenN (blkA_new 57 W #[.int .i64 t, .int .i64 n, .slice a bd.length c])
  have BA := hiddenN ba
  have IL := hiddenN (isLeafZ_any t n a bd.length c)
  have J0 := hiddenN (hJ _ _ _ h0 ba)
  have NS := hiddenN hN
  by_cases he : bd = []
  · subst he
    rw [if_pos (show ([] : List Lp).isEmpty = true from rfl)] at hL ⊢
    rw [show ([] : List Lp).length = 0 from rfl] at X IL BA J0 ⊢
    have y0 := X.out.cell (k := 0) rfl
    have y1 := X.out.cell (k := 1) rfl
    have y2 := X.out.cell (k := 2) rfl
    simp only [List.getElem_toArray, List.getElem_cons_zero, List.getElem_cons_succ] at y0 y1 y2
    rw [decide_eq_true rfl] at IL
    clear ba hT hN hs hp h0
    go_enter Try.func56, Try.ntmps56
    go_upto_region 1 with fail
    generalize W.alloc (.cells #[.int .i64 t, .int .i64 n, .slice a 0 c] 57) = W0 at *
    go_upto_region 2 with (go_at_call 60; (with_reducible refine (IL.out _).mono ?_); rintro e W1 ⟨rfl, b1⟩; have X1 := hiddenN (X.out.below b1); have J1 := hiddenN (hJ _ _ _ J0.out b1); have B1 := hiddenN (BA.out.trans (b1.mono BA.out.size)); clear b1)
    clear y0 y1 y2
    have y1 := X1.out.cell (k := 1) rfl
    simp only [List.getElem_toArray, List.getElem_cons_zero, List.getElem_cons_succ] at y1
    obtain ⟨fn, tmps, assign, body, hy, hR⟩ := hY (9 - 1) pre n W1 J1.out (by omega)
    have HR := hiddenN hR
    have hK1 : KpZ F W W1 := KpZ.of_below B1.out hn
    have HK1 := hiddenN hK1
    clear hR hK1
    refine (wpIn_wide (n := 9)).1 ?_
    gi_wp2
    refine HR.out.mono ?_
    rintro e W2 (⟨rfl, hj, hk⟩ | ⟨rfl, hx⟩)
    · have HJ2 := hiddenN hj
      have HK2 := hiddenN (HK1.out.trans hk)
      clear hj hk
      gi_wp2
      go_wp2
      go_ret
      exact .inl ⟨rfl, HJ2.out, HK2.out⟩
    · have HJ2 := hiddenN hx
      clear hx
      gi_wp2
      go_wp2
      go_ret
      exact .inr ⟨rfl, [n], List.prefix_rfl, HJ2.out⟩
  · have hb : ¬ bd.isEmpty = true := fun e => he (empty_iff.1 e)
    have hl0 : bd.length ≠ 0 := fun e => he (List.eq_nil_of_length_eq_zero e)
    rw [if_neg hb] at hL ⊢
    have TE := hiddenN (fun W' (h : Below W.heap.size W W') (hj : J pre W') => hT l0 F N J Jx hJ hY hN9 m a c pre W' (hN.keep fun k hk => h.block k (hn k hk)) (fun k hk => Nat.lt_of_lt_of_le (hn k hk) h.size) hs hp hj hL)
    rw [decide_eq_false hl0] at IL
    generalize bd.length = k at *
    generalize expZ bd = E at *
    have y0 := X.out.cell (k := 0) rfl
    have y1 := X.out.cell (k := 1) rfl
    have y2 := X.out.cell (k := 2) rfl
    simp only [List.getElem_toArray, List.getElem_cons_zero, List.getElem_cons_succ] at y0 y1 y2
    have HNN := hiddenN hn
    clear ba hT hN hs hp h0 hL
    go_enter Try.func56, Try.ntmps56
    go_upto_region 1 with fail
    generalize W.alloc (.cells #[.int .i64 t, .int .i64 n, .slice a k c] 57) = W0 at *
    go_upto_region 3 with (go_at_call 60; (with_reducible refine (IL.out _).mono ?_); rintro e W1 ⟨rfl, b1⟩; have X1 := hiddenN (X.out.below b1); have B1 := hiddenN (BA.out.trans (b1.mono BA.out.size)); have J1 := hiddenN (hJ _ _ _ J0.out b1); clear b1)
    clear y0 y1 y2
    have y2 := X1.out.cell (k := 2) rfl
    simp only [List.getElem_toArray, List.getElem_cons_zero, List.getElem_cons_succ] at y2
    have TE1 := hiddenN (TE.out W1 B1.out J1.out)
    unfold TelE at TE1
    clear TE
    go_wp2_with (go_at_call 41; (with_reducible refine TE1.out.mono ?_); rintro e W2 (⟨rfl, hj, hk⟩ | ⟨rfl, q, hq, hx⟩))
    · go_ret
      exact .inl ⟨rfl, hj, (KpZ.of_below B1.out HNN.out).trans hk⟩
    · go_ret
      exact .inr ⟨rfl, q, hq, hx⟩
theorem rep_prefix {j n : Nat} {e q : List Int} (h : j < n) (hq : q <+: e) : repZ j e ++ q <+: repZ n e := by
  obtain ⟨r, rfl⟩ := hq
  refine ⟨r ++ repZ (n - j - 1) (q ++ r), ?_⟩
  have e1 : repZ n (q ++ r) = repZ j (q ++ r) ++ repZ (n - j) (q ++ r) := by
    unfold repZ
    rw [← List.flatten_append, List.replicate_append_replicate, show j + (n - j) = n by omega]
  have e2 : repZ (n - j) (q ++ r) = (q ++ r) ++ repZ (n - j - 1) (q ++ r) := by
    unfold repZ
    rw [show n - j = (n - j - 1) + 1 by omega, List.replicate_succ, List.flatten_cons]
    simp
  rw [e1, e2]
  simp
set_option maxRecDepth 100000 in
set_option maxHeartbeats 8000000 in
theorem tellZ_any (l : List Lp) : TelOK l := by
  refine nest_ind (fun l ih => ?_) l
  intro l0 F N J Jx hJ hY hN9 m a c pre W hN hn hs hp h0 hLN
  obtain ⟨RE, hRE⟩ : ∃ Q : Ending → World → Prop, TelE F J Jx pre (expZ l) W = Q := ⟨_, rfl⟩
  rw [hRE]
  have HRE := hiddenN hRE
  have IH := hiddenN ih
  have HSZ := hiddenN hs
  have HPO := hiddenN hp
  have HLN := hiddenN hLN
  have N0 := hiddenN (NsK.start hN)
  have J0 := hiddenN h0
  obtain ⟨L, hL⟩ : ∃ L, l.length = L := ⟨_, rfl⟩
  have hLm : L ≤ 1000000 := by have := len_siz l; omega
  have hLI : (L : Int) ≤ 1000000 := by omega
  have HL := hiddenN hL
  rw [hL]
  clear hRE ih hN hL hs hp h0 hLN
  go_enter Try.func41, Try.ntmps41
  go_upto_region 2 with fail
  go_loopg [9] L (fun gk iv wr => ∃ (p1 rest : List Lp) (k : Nat), l = p1 ++ rest ∧ p1.length = k ∧ gk = rest.length ∧ iv = .int .i64 (k : Int) ∧ NsK F m wr a k rest ∧ J (pre ++ expZ p1) wr ∧ KpZ F W wr)
  case atStart => exact ⟨[], l, 0, rfl, rfl, HL.out.symm, rfl, N0.out, by rw [exp_nil, List.append_nil]; exact J0.out, KpZ.refl _ _⟩
  case round =>
    clear N0 J0
    obtain ⟨p1, rest, k, hl, hk, hgk, rfl, hNs, hj, hK⟩ := hrel
    subst hgk
    have NS := hiddenN hNs
    have HJ1 := hiddenN hj
    have HK := hiddenN hK
    have HL2 := hiddenN hl
    have HPK := hiddenN hk
    have HLK : Hid (L = k + rest.length) := by show _ = _; rw [← HL.out, hl, List.length_append, hk]
    have hnw : ∀ k, F k → k < wr.heap.size := fun k hk => Nat.lt_of_lt_of_le (hn k hk) hK.1.1
    clear hl hk hj hK hNs
    cases rest with
    | nil =>
      have hki : ¬ ((k : Int) < (L : Int)) := by rw [HLK.out]; simp
      go_wp2
      rw [← HRE.out]
      have e1 : p1 = l := by rw [HL2.out, List.append_nil]
      exact .inl ⟨rfl, by rw [← e1]; exact HJ1.out, HK.out⟩
    | cons x r =>
      have hki : (k : Int) < (L : Int) := by rw [HLK.out]; simp; omega
      have hkL : k < L := by rw [HLK.out]; simp
      have hkm : (k : Int) ≤ 1000000 := by omega
      obtain ⟨b, o, a1, c1, rfl, q0, q1, q2, q3⟩ := NS.out.hd
      have hmem : x ∈ l := by rw [HL2.out]; exact List.mem_append_right _ (List.mem_cons_self ..)
      have hpx := HPO.out
      rw [HL2.out, pos_app, pos_cons] at hpx
      obtain ⟨-, ht1, -, hpb, -⟩ := hpx
      have hsx := siz_mem hmem
      have hTot : totZ l = totZ p1 + (to1 x + totZ r) := by rw [HL2.out, tot_app, tot_cons]
      obtain ⟨E, hE⟩ : ∃ E, (if x.body.isEmpty then [x.node] else expZ x.body) = E := ⟨_, rfl⟩
      have hEl : E.length = (if x.body.isEmpty then 1 else totZ x.body) := by
        rw [← hE]
        split
        · rfl
        · exact exp_len _
      have hE1 : 1 ≤ E.length := by
        rw [hEl]
        split
        · omega
        · rename_i q; exact pos_tot hpb (fun e => q (empty_iff.2 e))
      have htx : x.times.toNat * E.length = to1 x := by rw [hEl]; rfl
      have hex : expZ l = expZ p1 ++ (repZ x.times.toNat E ++ expZ r) := by
        rw [HL2.out, exp_app, exp_cons]
        unfold ex1
        rw [hE]
      have htn : x.times.toNat ≤ to1 x := by rw [← htx]; exact Nat.le_mul_of_pos_right _ hE1
      have TO : Hid (∀ (pr : List Int) (u : World), KpZ F wr u → J pr u → pr.length + E.length ≤ N → Calls Try.prog 56 #[.agg #[.int .i64 x.times, .int .i64 x.node, .slice a1 x.body.length c1], .func (.yield l0) #[] #[]] u (TelE F J Jx pr E u)) := fun pr u hu hju hlu => by
        have := tellOnceZ_any x (IH.out x hmem) l0 F N J Jx hJ hY hN9 m a1 c1 pr u (q3.keep hu.1.2) (fun k hk => Nat.lt_of_lt_of_le (hnw k hk) hu.1.1) (by have := HSZ.out; omega) hpb hju (by rw [← hEl]; exact hlu)
        rwa [hE] at this
      unfold TelE at TO
      have hlen0 := HLN.out
      have hpl : (pre ++ expZ p1).length = pre.length + totZ p1 := by rw [List.length_append, exp_len]
      obtain ⟨tn, htn2⟩ : ∃ tn : Nat, x.times = (tn : Int) := ⟨x.times.toNat, by omega⟩
      rw [htn2, Int.toNat_natCast] at htx hex htn
      have htm : (tn : Int) ≤ 1000000 := by omega
      have HB : Hid (∀ j, j < tn → (pre ++ expZ p1 ++ repZ j E).length + E.length ≤ N) := fun j hj => by
        rw [List.length_append, rep_len, hpl]
        have h1 : (j + 1) * E.length ≤ tn * E.length := Nat.mul_le_mul_right _ hj
        rw [Nat.succ_mul] at h1
        omega
      have HEX := hiddenN hex
      have HX1 : Hid (ex1 x = repZ tn E) := by show _ = _; unfold ex1; rw [hE, htn2, Int.toNat_natCast]
      rw [htn2] at TO q0
      obtain ⟨L1, hL1⟩ : ∃ q, x.body.length = q := ⟨_, rfl⟩
      obtain ⟨nx, hnx⟩ : ∃ q, x.node = q := ⟨_, rfl⟩
      rw [hL1] at TO q2
      rw [hnx] at TO q1
      have b1 := (Below.refl wr.heap.size wr).alloc (Nat.le_refl _) (.cells #[.int .i64 (tn : Int), .int .i64 nx, .slice a1 L1 c1] 57)
      have X1 := hiddenN (blkA_new 57 wr #[.int .i64 (tn : Int), .int .i64 nx, .slice a1 L1 c1])
      have J1 := hiddenN (hJ _ _ _ HJ1.out b1)
      have K1 := hiddenN (HK.out.trans (KpZ.of_below b1 hnw))
      have BW := hiddenN (KpZ.of_below (F := F) b1 hnw)
      have NSL := hiddenN NS.out.tl
      have y0 := X1.out.cell (k := 0) rfl
      have y1 := X1.out.cell (k := 1) rfl
      have y2 := X1.out.cell (k := 2) rfl
      simp only [List.getElem_toArray, List.getElem_cons_zero, List.getElem_cons_succ] at y0 y1 y2
      clear b1 q3 hmem hpb ht1 hsx hTot hE hEl htx hex htn hlen0 hpl htn2 hL1 hnx HJ1 HK NS
      go_upto_region 4 with fail
      obtain ⟨xb, hxb⟩ : ∃ q, wr.heap.size = q := ⟨_, rfl⟩
      rw [hxb] at y0 y1 y2 X1 ⊢
      clear hxb q0 q1 q2
      obtain ⟨wA, hwA⟩ : ∃ q : World, q = wr := ⟨_, rfl⟩
      subst hwA
      generalize wA.alloc (.cells #[.int .i64 (tn : Int), .int .i64 nx, .slice a1 L1 c1] 57) = W1 at *
      go_wp2
      clear y0 y1 y2
      go_loopg [15] tn (fun gj v wr => ∃ j : Nat, j ≤ tn ∧ gj = tn - j ∧ v = .int .i64 (j : Int) ∧ J (pre ++ expZ p1 ++ repZ j E) wr ∧ KpZ F W wr ∧ KpZ F W1 wr)
      case atStart => exact ⟨0, Nat.zero_le _, rfl, rfl, by rw [rep_zero, List.append_nil]; exact J1.out, K1.out, KpZ.refl _ _⟩
      case round =>
        clear J1 K1
        obtain ⟨j, hj, rfl, rfl, hJj, hKj, hKj1⟩ := hrel
        have HJJ := hiddenN hJj
        have HKJ := hiddenN hKj
        have HKJ1 := hiddenN hKj1
        clear hJj hKj hKj1
        have hjm : (j : Int) ≤ 1000000 := by omega
        by_cases hlt : j < tn
        · have hji : (j : Int) < (tn : Int) := by omega
          have X2 := hiddenN (HKJ1.out.2 _ _ X1.out)
          have y0 := X2.out.cell (k := 0) rfl
          have y1 := X2.out.cell (k := 1) rfl
          have y2 := X2.out.cell (k := 2) rfl
          simp only [List.getElem_toArray, List.getElem_cons_zero, List.getElem_cons_succ] at y0 y1 y2
          have T2 := hiddenN (TO.out _ wr (BW.out.trans HKJ1.out) HJJ.out (HB.out j hlt))
          have HRP : Hid (∀ q, q <+: E → expZ p1 ++ (repZ j E ++ q) <+: expZ l) := fun q hq => by
            rw [HEX.out]
            exact List.prefix_append_right_inj _ |>.2 ((rep_prefix hlt hq).trans (List.prefix_append _ _))
          go_wp2_with (go_at_call 56; (with_reducible refine T2.out.mono ?_); clear T2; rintro e W3 (⟨rfl, hj3, hk3⟩ | ⟨rfl, q, hq, hx3⟩))
          · have H3 := hiddenN hj3
            have K3 := hiddenN hk3
            clear hj3 hk3
            go_roundg (tn - (j + 1))
            case measure => omega
            case rel => exact ⟨j + 1, by omega, rfl, by go_num, by rw [rep_snoc, ← List.append_assoc]; exact H3.out, HKJ.out.trans K3.out, HKJ1.out.trans K3.out⟩
          · rw [← HRE.out]
            exact .inr ⟨rfl, _, HRP.out q hq, by simpa [List.append_assoc] using hx3⟩
        · have ej : tn = j := by omega
          subst ej
          have hji : ¬ ((tn : Int) < (tn : Int)) := by omega
          go_wp2
          go_roundg r.length
          case measure => simp
          case rel => exact ⟨p1 ++ [x], r, k + 1, by rw [HL2.out]; simp, by rw [List.length_append, HPK.out]; rfl, rfl, by go_num, NSL.out.keep (BW.out.trans HKJ1.out).1.2, by rw [exp_snoc, HX1.out, ← List.append_assoc]; exact HJJ.out, HKJ.out⟩
end Go.Proofs.Ytmeogapffdgjlaa

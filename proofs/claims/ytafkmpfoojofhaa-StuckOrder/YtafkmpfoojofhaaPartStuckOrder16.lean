/- Texts of one chain, laid one behind the other. -/
import Derived.Test.YtafkmpfoojofhaaPartStuckOrder15
import Derived.Test.YtafkmpfoojofhaaPartStuckOrder7
import Derived.Test.YtafkmpfoojofhaaPartStuckOrder14
import Derived.Test.YtafkmpfoojofhaaPartStuckOrder12
import Derived.WalkSmall
namespace Go.Proofs.Ytafkmpfoojofhaa
open Go.ChangeShapes Go.WideShapes Go.ChangeAt Go.RowKit
def bkF (x : BK) : List Value := [.int .i64 x.n, .int .i64 x.f, .int .i64 x.a]
def flatB : List BK → List Value
  | [] => []
  | x :: L => bkF x ++ flatB L
def celB (x : BK) (j : Nat) : Value := if j = 0 then .int .i64 x.n else if j = 1 then .int .i64 x.f else .int .i64 x.a
theorem flatB_len : ∀ (L : List BK), (flatB L).length = L.length * 3
  | [] => rfl
  | x :: L => by show (bkF x ++ flatB L).length = _; rw [List.length_append, flatB_len L, List.length_cons]; show 3 + _ = _; omega
theorem flatB_append : ∀ (L M : List BK), flatB (L ++ M) = flatB L ++ flatB M
  | [], _ => rfl
  | x :: L, M => by show bkF x ++ flatB (L ++ M) = bkF x ++ flatB L ++ flatB M; rw [flatB_append L M, List.append_assoc]
theorem flatB_get : ∀ {L : List BK} {k j : Nat}, k < L.length → j < 3 → (flatB L)[k * 3 + j]? = some (celB (nthBk L k) j)
  | [], k, j, hk, _ => absurd hk (Nat.not_lt_zero _)
  | a :: L, 0, j, _, hj => by
    show (bkF a ++ flatB L)[0 * 3 + j]? = _
    rw [Nat.zero_mul, Nat.zero_add, List.getElem?_append_left (by show j < 3; exact hj)]
    match j, hj with
    | 0, _ => rfl
    | 1, _ => rfl
    | 2, _ => rfl
  | a :: L, k + 1, j, hk, hj => by
    show (bkF a ++ flatB L)[(k + 1) * 3 + j]? = _
    rw [List.getElem?_append_right (by show 3 ≤ _; omega)]
    have e : (k + 1) * 3 + j - (bkF a).length = k * 3 + j := by show (k + 1) * 3 + j - 3 = _; omega
    rw [e]
    exact flatB_get (Nat.lt_of_succ_lt_succ hk) hj
theorem flatB_one (L : List BK) : ∀ u ∈ flatB L, u.oneCell' = true := by
  induction L with
  | nil => intro u hu; cases hu
  | cons a L ih =>
    intro u hu
    rcases List.mem_append.1 (show u ∈ bkF a ++ flatB L from hu) with h | h
    · simp [bkF] at h
      rcases h with rfl | rfl | rfl <;> rfl
    · exact ih u h
theorem AtK.flat {w : World} {ad : Addr} {L : List BK} (h : AtK w (some ad) L) : ∀ j u, (flatB L)[j]? = some u → w.cell? (ad.add j) = some u := by
  intro j u hu
  have hj : j < L.length * 3 := by rw [← flatB_len]; exact (List.getElem?_eq_some_iff.1 hu).1
  rcases h with e | ⟨b, off, e, hc⟩
  · subst e; simp at hj
  · cases e
    have hk : j / 3 < L.length := by omega
    have e1 : j = j / 3 * 3 + j % 3 := by omega
    have hr : j % 3 < 3 := Nat.mod_lt _ (by decide)
    have h1 := flatB_get (L := L) hk hr
    rw [← e1, hu] at h1
    cases h1
    obtain ⟨c0, c1, c2⟩ := hc (j / 3) hk
    have ea : (⟨b, off, none⟩ : Addr).add j = ⟨b, off + j / 3 * 3 + j % 3, none⟩ := by
      have e2 : off + j / 3 * 3 + j % 3 = off + j := by omega
      rw [e2]
      simp [Addr.add]
    rw [ea]
    clear ea e1
    generalize j / 3 = k at *
    generalize j % 3 = r at *
    match r, hr with
    | 0, _ => exact c0
    | 1, _ => exact c1
    | 2, _ => exact c2
/-- A row of steps of a call's own, with room behind it. -/
def CapB (B : Nat) (w : World) (a : Option Addr) (c : Nat) (L : List BK) : Prop := w.ownsRow B 29 3 (.slice a L.length c) L.length (flatB L)
theorem CapB.nil (B : Nat) (w : World) : CapB B w none 0 [] := World.ownsRow_nil _ _ _ _
theorem CapB.at {B : Nat} {w : World} {a : Option Addr} {c : Nat} {L : List BK} (h : CapB B w a c L) : AtK w a L := by
  unfold CapB at h
  rcases h.2 with ⟨hv, hn⟩ | ⟨g, cap, cur, hv, hg, hh, hc, hm, hs, ht⟩
  · exact .inl (List.eq_nil_of_length_eq_zero hn)
  · cases hv
    refine .inr ⟨g, 0, rfl, fun k hk => ?_⟩
    have key : ∀ j, j < 3 → w.cell? ⟨g, k * 3 + j, none⟩ = some (celB (nthBk L k) j) := fun j hj => by
      rw [h.cellAt (k * 3 + j) (by omega), flatB_get hk hj]
    rw [Nat.zero_add]
    exact ⟨key 0 (by decide), key 1 (by decide), key 2 (by decide)⟩
theorem CapB.lt {B : Nat} {w : World} {a : Option Addr} {c : Nat} {L : List BK} (h : CapB B w a c L) : ∀ x, a = some x → B ≤ x.block ∧ x.block < w.heap.size := by
  intro x hx
  rcases h.2 with ⟨hv, hn⟩ | ⟨g, cap, cur, hv, hg, hh, hc, hm, hs, ht⟩
  · simp at hv; rw [hv.1] at hx; cases hx
  · cases hv
    cases hx
    exact ⟨hg, (Array.getElem?_eq_some_iff.1 hh).1⟩
theorem CapB.none {B : Nat} {w : World} {a : Option Addr} {c : Nat} {L : List BK} (h : CapB B w a c L) : a = Option.none → L.length = 0 ∧ c = 0 := by
  intro e
  rcases h.2 with ⟨hv, hn⟩ | ⟨g, cap, cur, hv, hg, hh, hc, hm, hs, ht⟩
  · simp at hv; exact ⟨hn, hv.2.2⟩
  · subst e; cases hv
theorem CapB.keep {B : Nat} {w w' : World} {a : Option Addr} {c : Nat} {L : List BK} (h : CapB B w a c L) (hk : ∀ x, a = some x → w'.heap[x.block]? = w.heap[x.block]?) : CapB B w' a c L := by
  refine ⟨h.1, ?_⟩
  rcases h.2 with h2 | ⟨g, cap, cur, hv, hg, hh, r⟩
  · exact .inl h2
  · refine .inr ⟨g, cap, cur, hv, hg, ?_, r⟩
    cases hv
    rw [hk _ rfl]; exact hh
theorem CapB.later {B : Nat} {w w' : World} {a : Option Addr} {c : Nat} {L : List BK} (h : CapB B w a c L) (hb : Below w.heap.size w w') : CapB B w' a c L := h.keep fun x hx => hb.block _ (h.lt x hx).2
theorem CapB.mono {B B' : Nat} {w : World} {a : Option Addr} {c : Nat} {L : List BK} (h : CapB B w a c L) (hB : B' ≤ B) : CapB B' w a c L := by
  refine ⟨h.1, ?_⟩
  rcases h.2 with h2 | ⟨g, cap, cur, hv, hg, r⟩
  · exact .inl h2
  · exact .inr ⟨g, cap, cur, hv, Nat.le_trans hB hg, r⟩
theorem CapB.room {B : Nat} {w : World} {a : Option Addr} {c : Nat} {L : List BK} (h : CapB B w a c L) : L.length ≤ c ∧ c ≤ maxLen := by
  rcases h.2 with ⟨hv, hn⟩ | ⟨g, cap, cur, hv, hg, hh, hc, hm, r⟩
  · simp at hv; exact ⟨by omega, by omega⟩
  · cases hv; exact ⟨hc, hm⟩
theorem Try.infoBk : (Try.prog.info? 29).map (fun i => (i.zero, i.size, i.bytes)) = some (some (.agg #[.int .i64 0, .int .i64 0, .int .i64 0]), 3, 24) := by kernel_rfl
theorem wpList_appB {w : World} {ops : Array Oper} {rest : List Oper} {o : Oper} {a : Act} {Q : Exit → Act → World → Prop} (hgd : o.guard = none) (s x : Operand) (ho : o.op = .call { callee := .builtin .append, args := #[s, x], argTypes := #[25, 25] })
    (B : Nat) (d0 : Option Addr) (c0 : Nat) (zs : List BK) (hs : a.eval s = .slice d0 zs.length c0) (hown : CapB B w d0 c0 zs) (ad : Option Addr) (c : Nat) (ys : List BK) (hx : a.eval x = .slice ad ys.length c) (hna : ad = none → ys.length = 0 ∧ c = 0) (hat : AtK w ad ys) (hb : (zs.length + ys.length) * 24 ≤ 140737488355328) (hB : B ≤ w.heap.size) (m : Nat) (R : List BK) (hm : zs.length + ys.length = m) (hR : zs ++ ys = R)
    (h : ∀ d c' w', CapB B w' d c' R → Below B w w' → wpList Try.prog ops Q rest (a.put o.dst (.slice d m c')) w') : wpList Try.prog ops Q (o :: rest) a w := by
  subst hm
  subst hR
  obtain ⟨i0, hi, hz0, hz1, hz2⟩ := info_parts Try.infoBk
  cases ad with
  | none =>
    obtain ⟨h1, rfl⟩ := hna rfl
    have e : ys = [] := List.eq_nil_of_length_eq_zero h1
    subst e
    refine wpList_append_own_none hgd s x 25 ho B 29 i0 3 Try.underlying25 hi _ zs.length (flatB zs) hs hown hx ?_
    have := h d0 c0 w (by rw [List.append_nil]; exact hown) (Below.refl _ _)
    simpa using this
  | some ad =>
    refine wpList_append_own _ hgd s x 25 ho B 29 i0 _ 3 24 Try.underlying25 hi hz0 hz1 hz2 rfl (by decide) _ zs.length (flatB zs) hs hown ad ys.length c (flatB ys) hx (by rw [flatB_len]) (AtK.flat hat) (flatB_one ys) (by unfold maxLen; omega) (by omega) hB ?_
    intro v' w1 hown1 hgrow _
    have hown' : w1.ownsRow B 29 3 v' (zs.length + ys.length) (flatB (zs ++ ys)) := by rw [flatB_append]; exact hown1
    have hv : ∃ a' cap', v' = .slice a' (zs.length + ys.length) cap' := by
      rcases hown'.2 with ⟨hv, hn⟩ | ⟨g, cap, cur, hv, -⟩
      · exact ⟨none, 0, by rw [hv, hn]⟩
      · exact ⟨_, _, hv⟩
    obtain ⟨a', cap', rfl⟩ := hv
    refine h a' cap' w1 ?_ ((Below.refl _ _).grown hgrow hB (fun k hk => ?_))
    · unfold CapB
      rw [List.length_append]
      exact hown'
    · cases d0 with
      | none => cases hk
      | some y => cases hk; exact (hown.lt y rfl).1
theorem AtK.dropX {w : World} {x : Addr} {L : List BK} (h : AtK w (some x) L) (k : Nat) : AtK w (some (x.add (k * 3))) (L.drop k) := by
  rcases h with e | ⟨b, off, e, hc⟩
  · rw [e]; exact .inl List.drop_nil
  · cases e
    refine .inr ⟨b, off + k * 3, by simp [Addr.add], fun j hj => ?_⟩
    have hl : k + j < L.length := by rw [List.length_drop] at hj; omega
    have e1 : nthBk (L.drop k) j = nthBk L (k + j) := by unfold nthBk; rw [List.getD_eq_getElem?_getD, List.getD_eq_getElem?_getD, List.getElem?_drop]
    have h2 := hc (k + j) hl
    rw [e1]
    have e2 : off + k * 3 + j * 3 = off + (k + j) * 3 := by omega
    rw [e2]
    exact h2
theorem AtK.take {w : World} {a : Option Addr} {L : List BK} (h : AtK w a L) (k : Nat) (hk : k ≤ L.length) : AtK w a (L.take k) := by
  rcases h with e | ⟨b, off, e, hc⟩
  · rw [e]; exact .inl List.take_nil
  · refine .inr ⟨b, off, e, fun j hj => ?_⟩
    rw [List.length_take] at hj
    have e1 : nthBk (L.take k) j = nthBk L j := by unfold nthBk; rw [List.getD_eq_getElem?_getD, List.getD_eq_getElem?_getD, List.getElem?_take_of_lt (by omega)]
    rw [e1]
    exact hc j (by omega)
theorem rev_drop {L : List BK} {p : Nat} (h : p < L.length) : (L.drop (p + 1)).reverse ++ [nthBk L p] = (L.drop p).reverse := by
  rw [List.drop_eq_getElem_cons h, List.reverse_cons, nthBk_get h]
theorem perm_turn (L : List BK) (q : Nat) : L.Perm (L.drop q ++ L.take q) := by
  have h1 : (L.take q ++ L.drop q).Perm (L.drop q ++ L.take q) := List.perm_append_comm
  rw [List.take_append_drop] at h1
  exact h1
set_option maxRecDepth 100000 in
set_option maxHeartbeats 16000000 in
theorem stuckOrder_walk (n : NN) (a : Option Addr) (c : Nat) (la : Option Addr) (N lc : Nat) (L : List BK) (k : Int) (w : World) (h : ArgN w a c n) (hk : ArgK w la N lc L) (hb : -9223372036854775808 ≤ k ∧ k ≤ 9223372036854775807) : Calls Try.prog 3 #[.agg #[.int .i64 n.nodes, .slice a n.arcs.length c], .slice la N lc, .int .i64 k] w fun e w' => e = .returned (.bool true) ∧ Below w.heap.size w w' := by
  have b0 := (Below.refl w.heap.size w).alloc (Nat.le_refl _) (.cells #[.int .i64 n.nodes, .slice a n.arcs.length c] 24)
  have G0 := hiddenN (blkA_new 24 w #[.int .i64 n.nodes, .slice a n.arcs.length c])
  have B0 := hiddenN b0
  have AW : Hid (∀ U, Calls Try.prog 6 #[] U fun e w' => e = .returned (.bool true) ∧ Below U.heap.size U w') := fun U => awake14 U
  have z0 := G0.out.cell (k := 0) rfl
  have z1 := G0.out.cell (k := 1) rfl
  simp only [List.getElem_toArray, List.getElem_cons_zero, List.getElem_cons_succ] at z0 z1
  clear b0
  obtain ⟨E, hE⟩ : ∃ E, conK n L = E := ⟨_, rfl⟩
  have CO : Hid (∀ U d e M, Below w.heap.size w U → M.length = N → AtK U d M → L.Perm M → Calls Try.prog 5 #[.agg #[.int .i64 n.nodes, .slice a n.arcs.length c], .slice d N e] U (ConE U E)) := fun U d e M hU hl hd hp => by
    have q := confirm_any n a c M d N e U (h.lies.below hU) (by have := h.room; omega) hl (by have := hk.room; have := hk.len; omega) hd (fun b hb => hk.ins b (hp.mem_iff.2 hb))
    rw [con_perm hp, hE] at q
    exact q
  have HLN := hiddenN hk.len
  have HN0 := hiddenN hk.none
  have HL := hiddenN hk.lies
  have hroom : N * 24 ≤ 140737488351232 := by have := hk.room; rw [hk.len] at this; exact this
  have hcap : N ≤ lc := by have := hk.cap; rw [hk.len] at this; exact this
  have hEE : (E == E) = true := by simp
  clear h hk hE
  have RF := hiddenN (List.Perm.refl L)
  go_enter Try.func3, Try.ntmps3
  go_upto_region 1 with fail
  generalize w.alloc (.cells #[.int .i64 n.nodes, .slice a n.arcs.length c] 24) = W0 at *
  go_upto_region 2 with (go_at_call 5; (with_reducible refine (CO.out W0 la lc L B0.out HLN.out (HL.out.below B0.out) RF.out).mono ?_); rintro e V1 ⟨rfl, b1⟩; have L1 := hiddenN (B0.out.trans (b1.mono B0.out.size)); have X1 := hiddenN (G0.out.below b1); clear b1)
  clear z0 z1 G0 B0
  obtain ⟨B, hB⟩ : ∃ B, V1.heap.size = B := ⟨_, rfl⟩
  have hgB : w.heap.size < B := by rw [← hB]; exact X1.out.lt
  go_wp2
  go_loopg [8, 9] N (fun gk v8 v9 wr => ∃ (p cM : Nat) (d : Option Addr), p ≤ N ∧ p = gk ∧ v9 = .int .i64 ((p : Int) - 1) ∧ v8 = .slice d (N - p) cM ∧ CapB B wr d cM (L.drop p).reverse ∧ BlkA 24 w.heap.size wr #[.int .i64 n.nodes, .slice a n.arcs.length c] ∧ B ≤ wr.heap.size ∧ Below w.heap.size w wr)
  case atStart => exact ⟨N, 0, none, Nat.le_refl _, rfl, rfl, by simp, by rw [← HLN.out, List.drop_length]; exact CapB.nil _ _, X1.out, Nat.le_of_eq hB.symm, L1.out⟩
  case round =>
    clear X1 L1 hB
    obtain ⟨p, cM, d, hp, rfl, rfl, rfl, hC, hX, hBr, hW⟩ := hrel
    have HC := hiddenN hC
    have XN := hiddenN hX
    have BW := hiddenN hW
    clear hC hX hW
    cases p with
    | succ p =>
      have hpi : (((p + 1 : Nat) : Int) - 1) = (p : Int) := by omega
      rw [hpi]
      have hpN : (p : Int) < (N : Int) := by omega
      have hpL : p < L.length := by rw [HLN.out]; omega
      rcases (HL.out.below BW.out) with e | ⟨lb, lo, ea, hcc⟩
      · rw [e] at hpL; exact absurd hpL (Nat.not_lt_zero _)
      obtain ⟨d0, d1, d2⟩ := hcc p hpL
      subst ea
      have RD := hiddenN (rev_drop hpL)
      have LR : Hid ((L.drop (p + 1)).reverse.length = N - (p + 1)) := by show _ = _; rw [List.length_reverse, List.length_drop, HLN.out]
      clear hcc hpL hpi
      generalize nthBk L p = b at *
      obtain ⟨bn, bf, ba⟩ := b
      simp only at d0 d1 d2
      have b3 := (Below.refl wr.heap.size wr).alloc (Nat.le_refl _) (.cells #[.int .i64 bn, .int .i64 bf, .int .i64 ba] 29)
      have C3 := hiddenN (HC.out.later b3)
      have X3 := hiddenN (XN.out.below b3)
      have V3 := hiddenN (BW.out.trans (b3.mono BW.out.size))
      have A3 : Hid (AtK (wr.alloc (.cells #[.int .i64 bn, .int .i64 bf, .int .i64 ba] 29)) (some ⟨wr.heap.size, 0, none⟩) [⟨bn, bf, ba⟩]) := atK_new wr ⟨bn, bf, ba⟩
      have hB3 : B ≤ (wr.alloc (.cells #[.int .i64 bn, .int .i64 bf, .int .i64 ba] 29)).heap.size := Nat.le_trans hBr b3.size
      have hNp : N - (p + 1) + 1 = N - p := by omega
      have hgw : w.heap.size ≤ B := by omega
      clear b3 HC XN BW
      go_wp2_with (at_builtin; refine wpList_appB rfl _ _ rfl B d cM (L.drop (p + 1)).reverse (by rw [LR.out]; rfl) C3.out (some ⟨wr.heap.size, 0, none⟩) 1 [⟨bn, bf, ba⟩] rfl (fun e => by cases e) A3.out (by rw [LR.out]; simp; omega) hB3 (N - p) (L.drop p).reverse (by rw [LR.out]; exact hNp) RD.out ?_; intro d4 c4 W4 hd4 b4; have C4 := hiddenN hd4; have B4 := hiddenN b4; clear hd4 b4)
      go_roundg p
      case measure => omega
      case rel => exact ⟨p, c4, d4, by omega, rfl, by go_num, rfl, C4.out, X3.out.keep (B4.out.block _ hgB), Nat.le_trans hB3 B4.out.size, V3.out.trans (B4.out.mono hgw)⟩
    | zero =>
      have hz : ((0 : Nat) : Int) - 1 = -1 := rfl
      rw [hz]
      clear hz
      have L2 := BW
      have X2 := XN
      have KB2 : Hid (CapB B wr d cM L.reverse) := HC.out
      have LRV : Hid (L.reverse.length = N) := by show _ = _; rw [List.length_reverse]; exact HLN.out
      have COB : Hid (∀ U, Below w.heap.size w U → AtK U d L.reverse → Calls Try.prog 5 #[.agg #[.int .i64 n.nodes, .slice a n.arcs.length c], .slice d N cM] U (ConE U E)) := fun U hU hd => CO.out U d cM L.reverse hU LRV.out hd (List.reverse_perm L).symm
      clear HC BW XN hBr
      obtain ⟨W2, hW2⟩ : ∃ W2, wr = W2 := ⟨_, rfl⟩
      rw [hW2] at L2 X2 KB2 ⊢
      clear hW2
      have y0 := X2.out.cell (k := 0) rfl
      have y1 := X2.out.cell (k := 1) rfl
      simp only [List.getElem_toArray, List.getElem_cons_zero, List.getElem_cons_succ] at y0 y1
      by_cases h1 : k < 0
      · have C4B := hiddenN (COB.out W2 L2.out KB2.out.at)
        go_wp2_with (first
          | (go_at_call 5; (with_reducible refine C4B.out.mono ?_); rintro e V5 ⟨rfl, b5⟩; have LZ := hiddenN (L2.out.trans (b5.mono L2.out.size)); clear b5 C4B)
          | (go_at_call 6; (with_reducible refine (AW.out _).mono ?_); rintro e w9 ⟨rfl, b9⟩; have L9 := hiddenN (LZ.out.trans (b9.mono LZ.out.size)); clear b9))
        go_ret
        exact ⟨by first | rfl | simp, L9.out⟩
      by_cases h2 : (N : Int) < k
      · have C4B := hiddenN (COB.out W2 L2.out KB2.out.at)
        go_wp2_with (first
          | (go_at_call 5; (with_reducible refine C4B.out.mono ?_); rintro e V5 ⟨rfl, b5⟩; have LZ := hiddenN (L2.out.trans (b5.mono L2.out.size)); clear b5 C4B)
          | (go_at_call 6; (with_reducible refine (AW.out _).mono ?_); rintro e w9 ⟨rfl, b9⟩; have L9 := hiddenN (LZ.out.trans (b9.mono LZ.out.size)); clear b9))
        go_ret
        exact ⟨by first | rfl | simp, L9.out⟩
      obtain ⟨q, rfl⟩ : ∃ q : Nat, k = (q : Int) := ⟨k.toNat, by omega⟩
      have hq : q ≤ N := by omega
      have hqc : q ≤ lc := by omega
      have LD : Hid ((L.drop q).length = N - q) := by show _ = _; rw [List.length_drop, HLN.out]
      have LT : Hid ((L.take q).length = q) := by show _ = _; rw [List.length_take, HLN.out]; omega
      have LA : Hid ((L.drop q ++ L.take q).length = N) := by show _ = _; rw [List.length_append, LD.out, LT.out]; omega
      have PM := hiddenN (perm_turn L q)
      have h1' : (0 : Int) ≤ (q : Int) := by omega
      have h2' : (q : Int) ≤ (N : Int) := by omega
      have S2 := hiddenN (HL.out.below L2.out)
      cases la with
      | none =>
        obtain ⟨e1, e2⟩ := HN0.out rfl
        rw [HLN.out] at e1
        subst e1 e2
        have eq0 : q = 0 := by omega
        subst eq0
        have S3 : Hid (AtK W2 none (L.drop 0)) := .inl (List.eq_nil_of_length_eq_zero LD.out)
        have S4 : Hid (AtK W2 none (L.take 0)) := .inl rfl
        go_upto_region 11 with (at_builtin; refine wpList_appB rfl _ _ rfl W2.heap.size none 0 [] rfl (CapB.nil _ _) none 0 (L.drop 0) (by show _ = Value.slice _ _ _; rw [LD.out]; rfl) (fun e => by first | exact ⟨LD.out, rfl⟩ | cases e) S3.out (by rw [LD.out]; decide) (Nat.le_refl _) 0 (L.drop 0) (by rw [LD.out]; rfl) rfl ?_; intro d3 c3 V3 hd3 b3; have C3 := hiddenN hd3; have B3 := hiddenN b3; clear hd3 b3)
        go_upto_region 12 with (at_builtin; refine wpList_appB rfl _ _ rfl W2.heap.size d3 c3 (L.drop 0) (by show _ = Value.slice _ _ _; rw [LD.out]; rfl) C3.out none 0 (L.take 0) rfl (fun e => by first | exact ⟨LT.out, rfl⟩ | cases e) (S4.out.below B3.out) (by rw [LD.out, List.take_zero]; decide) B3.out.size 0 (L.drop 0 ++ L.take 0) (by rw [LD.out, List.take_zero]; rfl) rfl ?_; intro d4 c4 V4 hd4 b4; have C4 := hiddenN hd4; have B4 := hiddenN (B3.out.trans b4); clear hd4 b4)
        have L4 := hiddenN (L2.out.trans (B4.out.mono L2.out.size))
        have X4 := hiddenN (X2.out.below B4.out)
        have K4 := hiddenN (KB2.out.later B4.out)
        clear y0 y1
        have y0 := X4.out.cell (k := 0) rfl
        have y1 := X4.out.cell (k := 1) rfl
        simp only [List.getElem_toArray, List.getElem_cons_zero, List.getElem_cons_succ] at y0 y1
        have C4B := hiddenN (COB.out V4 L4.out K4.out.at)
        have C5A := hiddenN (fun U (hU : Below V4.heap.size V4 U) => CO.out U d4 c4 (L.drop _ ++ L.take _) (L4.out.trans (hU.mono L4.out.size)) LA.out (C4.out.at.below hU) PM.out)
        go_wp2_with (first
          | (go_at_call 5; (with_reducible refine C4B.out.mono ?_); rintro e V5 ⟨rfl, b5⟩; have L5 := hiddenN (L4.out.trans (b5.mono L4.out.size)); have B5 := hiddenN b5; have X5 := hiddenN (X4.out.below b5); have z0 := X5.out.cell (k := 0) rfl; have z1 := X5.out.cell (k := 1) rfl; simp only [List.getElem_toArray, List.getElem_cons_zero, List.getElem_cons_succ] at z0 z1; clear b5 C4B)
          | (go_at_call 5; (with_reducible refine (C5A.out _ B5.out).mono ?_); rintro e V6 ⟨rfl, b6⟩; have LZ := hiddenN (L5.out.trans (b6.mono L5.out.size)); clear b6 C5A)
          | (go_at_call 6; (with_reducible refine (AW.out _).mono ?_); rintro e w9 ⟨rfl, b9⟩; have L9 := hiddenN (LZ.out.trans (b9.mono LZ.out.size)); clear b9))
        go_ret
        exact ⟨by first | rfl | simp, L9.out⟩
      | some x =>
        have S4 := hiddenN (AtK.take S2.out q (by rw [HLN.out]; exact hq))
        by_cases hlq : lc = q
        · have HNq : Hid (N - q = 0) := by show _ = _; omega
          have S3 : Hid (∀ ad, AtK W2 ad (L.drop q)) := fun ad => .inl (List.eq_nil_of_length_eq_zero (by rw [LD.out]; exact HNq.out))
          go_upto_region 11 with (at_builtin; refine wpList_appB rfl _ _ rfl W2.heap.size none 0 [] rfl (CapB.nil _ _) (some x) 0 (L.drop q) (by show _ = Value.slice _ _ _; rw [LD.out, HNq.out]; rfl) (fun e => by first | exact ⟨LD.out, rfl⟩ | cases e) (S3.out _) (by rw [LD.out]; simp; omega) (Nat.le_refl _) (N - q) (L.drop q) (by rw [LD.out]; simp) rfl ?_; intro d3 c3 V3 hd3 b3; have C3 := hiddenN hd3; have B3 := hiddenN b3; clear hd3 b3)
          go_upto_region 12 with (at_builtin; refine wpList_appB rfl _ _ rfl W2.heap.size d3 c3 (L.drop q) (by show _ = Value.slice _ _ _; rw [LD.out]; rfl) C3.out (some x) q (L.take q) (by show _ = Value.slice _ _ _; rw [LT.out]; rfl) (fun e => by first | exact ⟨LT.out, rfl⟩ | cases e) (S4.out.below B3.out) (by rw [LD.out, LT.out]; omega) B3.out.size N (L.drop q ++ L.take q) (by rw [LD.out, LT.out]; omega) rfl ?_; intro d4 c4 V4 hd4 b4; have C4 := hiddenN hd4; have B4 := hiddenN (B3.out.trans b4); clear hd4 b4)
          have L4 := hiddenN (L2.out.trans (B4.out.mono L2.out.size))
          have X4 := hiddenN (X2.out.below B4.out)
          have K4 := hiddenN (KB2.out.later B4.out)
          clear y0 y1
          have y0 := X4.out.cell (k := 0) rfl
          have y1 := X4.out.cell (k := 1) rfl
          simp only [List.getElem_toArray, List.getElem_cons_zero, List.getElem_cons_succ] at y0 y1
          have C4B := hiddenN (COB.out V4 L4.out K4.out.at)
          have C5A := hiddenN (fun U (hU : Below V4.heap.size V4 U) => CO.out U d4 c4 (L.drop _ ++ L.take _) (L4.out.trans (hU.mono L4.out.size)) LA.out (C4.out.at.below hU) PM.out)
          go_wp2_with (first
            | (go_at_call 5; (with_reducible refine C4B.out.mono ?_); rintro e V5 ⟨rfl, b5⟩; have L5 := hiddenN (L4.out.trans (b5.mono L4.out.size)); have B5 := hiddenN b5; have X5 := hiddenN (X4.out.below b5); have z0 := X5.out.cell (k := 0) rfl; have z1 := X5.out.cell (k := 1) rfl; simp only [List.getElem_toArray, List.getElem_cons_zero, List.getElem_cons_succ] at z0 z1; clear b5 C4B)
            | (go_at_call 5; (with_reducible refine (C5A.out _ B5.out).mono ?_); rintro e V6 ⟨rfl, b6⟩; have LZ := hiddenN (L5.out.trans (b6.mono L5.out.size)); clear b6 C5A)
            | (go_at_call 6; (with_reducible refine (AW.out _).mono ?_); rintro e w9 ⟨rfl, b9⟩; have L9 := hiddenN (LZ.out.trans (b9.mono LZ.out.size)); clear b9))
          go_ret
          exact ⟨by first | rfl | simp, L9.out⟩
        · have S3 := hiddenN (AtK.dropX S2.out q)
          go_upto_region 11 with (at_builtin; refine wpList_appB rfl _ _ rfl W2.heap.size none 0 [] rfl (CapB.nil _ _) (some (x.add (q * 3))) (lc - q) (L.drop q) (by show _ = Value.slice _ _ _; rw [LD.out]; rfl) (fun e => by first | exact ⟨LD.out, rfl⟩ | cases e) S3.out (by rw [LD.out]; simp; omega) (Nat.le_refl _) (N - q) (L.drop q) (by rw [LD.out]; simp) rfl ?_; intro d3 c3 V3 hd3 b3; have C3 := hiddenN hd3; have B3 := hiddenN b3; clear hd3 b3)
          go_upto_region 12 with (at_builtin; refine wpList_appB rfl _ _ rfl W2.heap.size d3 c3 (L.drop q) (by show _ = Value.slice _ _ _; rw [LD.out]; rfl) C3.out (some x) lc (L.take q) (by show _ = Value.slice _ _ _; rw [LT.out]; rfl) (fun e => by first | exact ⟨LT.out, rfl⟩ | cases e) (S4.out.below B3.out) (by rw [LD.out, LT.out]; omega) B3.out.size N (L.drop q ++ L.take q) (by rw [LD.out, LT.out]; omega) rfl ?_; intro d4 c4 V4 hd4 b4; have C4 := hiddenN hd4; have B4 := hiddenN (B3.out.trans b4); clear hd4 b4)
          have L4 := hiddenN (L2.out.trans (B4.out.mono L2.out.size))
          have X4 := hiddenN (X2.out.below B4.out)
          have K4 := hiddenN (KB2.out.later B4.out)
          clear y0 y1
          have y0 := X4.out.cell (k := 0) rfl
          have y1 := X4.out.cell (k := 1) rfl
          simp only [List.getElem_toArray, List.getElem_cons_zero, List.getElem_cons_succ] at y0 y1
          have C4B := hiddenN (COB.out V4 L4.out K4.out.at)
          have C5A := hiddenN (fun U (hU : Below V4.heap.size V4 U) => CO.out U d4 c4 (L.drop _ ++ L.take _) (L4.out.trans (hU.mono L4.out.size)) LA.out (C4.out.at.below hU) PM.out)
          go_wp2_with (first
            | (go_at_call 5; (with_reducible refine C4B.out.mono ?_); rintro e V5 ⟨rfl, b5⟩; have L5 := hiddenN (L4.out.trans (b5.mono L4.out.size)); have B5 := hiddenN b5; have X5 := hiddenN (X4.out.below b5); have z0 := X5.out.cell (k := 0) rfl; have z1 := X5.out.cell (k := 1) rfl; simp only [List.getElem_toArray, List.getElem_cons_zero, List.getElem_cons_succ] at z0 z1; clear b5 C4B)
            | (go_at_call 5; (with_reducible refine (C5A.out _ B5.out).mono ?_); rintro e V6 ⟨rfl, b6⟩; have LZ := hiddenN (L5.out.trans (b6.mono L5.out.size)); clear b6 C5A)
            | (go_at_call 6; (with_reducible refine (AW.out _).mono ?_); rintro e w9 ⟨rfl, b9⟩; have L9 := hiddenN (LZ.out.trans (b9.mono LZ.out.size)); clear b9))
          go_ret
          exact ⟨by first | rfl | simp, L9.out⟩
end Go.Proofs.Ytafkmpfoojofhaa

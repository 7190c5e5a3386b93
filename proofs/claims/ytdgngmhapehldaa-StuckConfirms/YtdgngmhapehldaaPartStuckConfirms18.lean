/- Texts of one chain, laid one behind the other. -/
import Derived.Test.YtdgngmhapehldaaPartStuckConfirms17
import Derived.Test.YtdgngmhapehldaaPartStuckConfirms7
import Derived.Test.YtdgngmhapehldaaPartStuckConfirms16
import Derived.WalkSmall
namespace Go.Proofs.Ytdgngmhapehldaa
open Go.ChangeShapes Go.WideShapes Go.ChangeAt Go.RowKit
def bkF (x : BK) : List Value := [.int .i64 x.n, .int .i64 x.f, .int .i64 x.a]
def flatB : List BK → List Value
  | [] => []
  | x :: L => bkF x ++ flatB L
def celB (x : BK) (j : Nat) : Value := if j = 0 then .int .i64 x.n else if j = 1 then .int .i64 x.f else .int .i64 x.a
theorem flatB_len : ∀ (L : List BK), (flatB L).length = L.length * 3
  | [] => rfl
  | x :: L => by show (bkF x ++ flatB L).length = _; rw [List.length_append, flatB_len L, List.length_cons]; show 3 + _ = _; omega
theorem flatB_append : ∀ (L M : List BK), flatB (L ++ M) = flatB L ++ flatB M
  | [], _ => rfl
  | x :: L, M => by show bkF x ++ flatB (L ++ M) = bkF x ++ flatB L ++ flatB M; rw [flatB_append L M, List.append_assoc]
theorem flatB_get : ∀ {L : List BK} {k j : Nat}, k < L.length → j < 3 → (flatB L)[k * 3 + j]? = some (celB (nthBk L k) j)
  | [], k, j, hk, _ => absurd hk (Nat.not_lt_zero _)
  | a :: L, 0, j, _, hj => by
    show (bkF a ++ flatB L)[0 * 3 + j]? = _
    rw [Nat.zero_mul, Nat.zero_add, List.getElem?_append_left (by show j < 3; exact hj)]
    match j, hj with
    | 0, _ => rfl
    | 1, _ => rfl
    | 2, _ => rfl
  | a :: L, k + 1, j, hk, hj => by
    show (bkF a ++ flatB L)[(k + 1) * 3 + j]? = _
    rw [List.getElem?_append_right (by show 3 ≤ _; omega)]
    have e : (k + 1) * 3 + j - (bkF a).length = k * 3 + j := by show (k + 1) * 3 + j - 3 = _; omega
    rw [e]
    exact flatB_get (Nat.lt_of_succ_lt_succ hk) hj
theorem flatB_one (L : List BK) : ∀ u ∈ flatB L, u.oneCell' = true := by
  induction L with
  | nil => intro u hu; cases hu
  | cons a L ih =>
    intro u hu
    rcases List.mem_append.1 (show u ∈ bkF a ++ flatB L from hu) with h | h
    · simp [bkF] at h
      rcases h with rfl | rfl | rfl <;> rfl
    · exact ih u h
theorem AtK.flat {w : World} {ad : Addr} {L : List BK} (h : AtK w (some ad) L) : ∀ j u, (flatB L)[j]? = some u → w.cell? (ad.add j) = some u := by
  intro j u hu
  have hj : j < L.length * 3 := by rw [← flatB_len]; exact (List.getElem?_eq_some_iff.1 hu).1
  rcases h with e | ⟨b, off, e, hc⟩
  · subst e; simp at hj
  · cases e
    have hk : j / 3 < L.length := by omega
    have e1 : j = j / 3 * 3 + j % 3 := by omega
    have hr : j % 3 < 3 := Nat.mod_lt _ (by decide)
    have h1 := flatB_get (L := L) hk hr
    rw [← e1, hu] at h1
    cases h1
    obtain ⟨c0, c1, c2⟩ := hc (j / 3) hk
    have ea : (⟨b, off, none⟩ : Addr).add j = ⟨b, off + j / 3 * 3 + j % 3, none⟩ := by
      have e2 : off + j / 3 * 3 + j % 3 = off + j := by omega
      rw [e2]
      simp [Addr.add]
    rw [ea]
    clear ea e1
    generalize j / 3 = k at *
    generalize j % 3 = r at *
    match r, hr with
    | 0, _ => exact c0
    | 1, _ => exact c1
    | 2, _ => exact c2
/-- A row of steps of a call's own, with room behind it. -/
def CapB (B : Nat) (w : World) (a : Option Addr) (c : Nat) (L : List BK) : Prop := w.ownsRow B 42 3 (.slice a L.length c) L.length (flatB L)
theorem CapB.nil (B : Nat) (w : World) : CapB B w none 0 [] := World.ownsRow_nil _ _ _ _
theorem CapB.at {B : Nat} {w : World} {a : Option Addr} {c : Nat} {L : List BK} (h : CapB B w a c L) : AtK w a L := by
  unfold CapB at h
  rcases h.2 with ⟨hv, hn⟩ | ⟨g, cap, cur, hv, hg, hh, hc, hm, hs, ht⟩
  · exact .inl (List.eq_nil_of_length_eq_zero hn)
  · cases hv
    refine .inr ⟨g, 0, rfl, fun k hk => ?_⟩
    have key : ∀ j, j < 3 → w.cell? ⟨g, k * 3 + j, none⟩ = some (celB (nthBk L k) j) := fun j hj => by
      rw [h.cellAt (k * 3 + j) (by omega), flatB_get hk hj]
    rw [Nat.zero_add]
    exact ⟨key 0 (by decide), key 1 (by decide), key 2 (by decide)⟩
theorem CapB.lt {B : Nat} {w : World} {a : Option Addr} {c : Nat} {L : List BK} (h : CapB B w a c L) : ∀ x, a = some x → B ≤ x.block ∧ x.block < w.heap.size := by
  intro x hx
  rcases h.2 with ⟨hv, hn⟩ | ⟨g, cap, cur, hv, hg, hh, hc, hm, hs, ht⟩
  · simp at hv; rw [hv.1] at hx; cases hx
  · cases hv
    cases hx
    exact ⟨hg, (Array.getElem?_eq_some_iff.1 hh).1⟩
theorem CapB.none {B : Nat} {w : World} {a : Option Addr} {c : Nat} {L : List BK} (h : CapB B w a c L) : a = Option.none → L.length = 0 ∧ c = 0 := by
  intro e
  rcases h.2 with ⟨hv, hn⟩ | ⟨g, cap, cur, hv, hg, hh, hc, hm, hs, ht⟩
  · simp at hv; exact ⟨hn, hv.2.2⟩
  · subst e; cases hv
theorem CapB.keep {B : Nat} {w w' : World} {a : Option Addr} {c : Nat} {L : List BK} (h : CapB B w a c L) (hk : ∀ x, a = some x → w'.heap[x.block]? = w.heap[x.block]?) : CapB B w' a c L := by
  refine ⟨h.1, ?_⟩
  rcases h.2 with h2 | ⟨g, cap, cur, hv, hg, hh, r⟩
  · exact .inl h2
  · refine .inr ⟨g, cap, cur, hv, hg, ?_, r⟩
    cases hv
    rw [hk _ rfl]; exact hh
theorem CapB.later {B : Nat} {w w' : World} {a : Option Addr} {c : Nat} {L : List BK} (h : CapB B w a c L) (hb : Below w.heap.size w w') : CapB B w' a c L := h.keep fun x hx => hb.block _ (h.lt x hx).2
theorem CapB.mono {B B' : Nat} {w : World} {a : Option Addr} {c : Nat} {L : List BK} (h : CapB B w a c L) (hB : B' ≤ B) : CapB B' w a c L := by
  refine ⟨h.1, ?_⟩
  rcases h.2 with h2 | ⟨g, cap, cur, hv, hg, r⟩
  · exact .inl h2
  · exact .inr ⟨g, cap, cur, hv, Nat.le_trans hB hg, r⟩
theorem CapB.room {B : Nat} {w : World} {a : Option Addr} {c : Nat} {L : List BK} (h : CapB B w a c L) : L.length ≤ c ∧ c ≤ maxLen := by
  rcases h.2 with ⟨hv, hn⟩ | ⟨g, cap, cur, hv, hg, hh, hc, hm, r⟩
  · simp at hv; exact ⟨by omega, by omega⟩
  · cases hv; exact ⟨hc, hm⟩
theorem Try.infoBk : (Try.prog.info? 42).map (fun i => (i.zero, i.size, i.bytes)) = some (some (.agg #[.int .i64 0, .int .i64 0, .int .i64 0]), 3, 24) := by kernel_rfl
theorem wpList_appB {w : World} {ops : Array Oper} {rest : List Oper} {o : Oper} {a : Act} {Q : Exit → Act → World → Prop} (hgd : o.guard = none) (s x : Operand) (ho : o.op = .call { callee := .builtin .append, args := #[s, x], argTypes := #[25, 25] })
    (B : Nat) (d0 : Option Addr) (c0 : Nat) (zs : List BK) (hs : a.eval s = .slice d0 zs.length c0) (hown : CapB B w d0 c0 zs) (ad : Option Addr) (c : Nat) (ys : List BK) (hx : a.eval x = .slice ad ys.length c) (hna : ad = none → ys.length = 0 ∧ c = 0) (hat : AtK w ad ys) (hb : (zs.length + ys.length) * 24 ≤ 140737488355328) (hB : B ≤ w.heap.size) (m : Nat) (R : List BK) (hm : zs.length + ys.length = m) (hR : zs ++ ys = R)
    (h : ∀ d c' w', CapB B w' d c' R → Below B w w' → wpList Try.prog ops Q rest (a.put o.dst (.slice d m c')) w') : wpList Try.prog ops Q (o :: rest) a w := by
  subst hm
  subst hR
  obtain ⟨i0, hi, hz0, hz1, hz2⟩ := info_parts Try.infoBk
  cases ad with
  | none =>
    obtain ⟨h1, rfl⟩ := hna rfl
    have e : ys = [] := List.eq_nil_of_length_eq_zero h1
    subst e
    refine wpList_append_own_none hgd s x 25 ho B 42 i0 3 Try.underlying25 hi _ zs.length (flatB zs) hs hown hx ?_
    have := h d0 c0 w (by rw [List.append_nil]; exact hown) (Below.refl _ _)
    simpa using this
  | some ad =>
    refine wpList_append_own _ hgd s x 25 ho B 42 i0 _ 3 24 Try.underlying25 hi hz0 hz1 hz2 rfl (by decide) _ zs.length (flatB zs) hs hown ad ys.length c (flatB ys) hx (by rw [flatB_len]) (AtK.flat hat) (flatB_one ys) (by unfold maxLen; omega) (by omega) hB ?_
    intro v' w1 hown1 hgrow _
    have hown' : w1.ownsRow B 42 3 v' (zs.length + ys.length) (flatB (zs ++ ys)) := by rw [flatB_append]; exact hown1
    have hv : ∃ a' cap', v' = .slice a' (zs.length + ys.length) cap' := by
      rcases hown'.2 with ⟨hv, hn⟩ | ⟨g, cap, cur, hv, -⟩
      · exact ⟨none, 0, by rw [hv, hn]⟩
      · exact ⟨_, _, hv⟩
    obtain ⟨a', cap', rfl⟩ := hv
    refine h a' cap' w1 ?_ ((Below.refl _ _).grown hgrow hB (fun k hk => ?_))
    · unfold CapB
      rw [List.length_append]
      exact hown'
    · cases d0 with
      | none => cases hk
      | some y => cases hk; exact (hown.lt y rfl).1
set_option maxRecDepth 100000 in
set_option maxHeartbeats 4000000 in
theorem rfind_any (L : List BK) (la : Option Addr) (len cap : Nat) (v : Int) (w : World) (hlen : L.length = len) (hr : len ≤ 4611686018427387904) (hL : AtK w la L) :
    Calls Try.prog 23 #[.slice la len cap, .int .i64 v] w fun e w' => e = .returned (.int .i64 (finK L v 0)) ∧ w = w' := by
  have HL := hiddenN hL
  have HLEN := hiddenN hlen
  clear hL hlen
  go_enter Try.func23, Try.ntmps23
  go_wp2
  go_loopg [5] len (fun gk i wr => ∃ k : Nat, k ≤ len ∧ gk = len - k ∧ i = .int .i64 (k : Int) ∧ (∀ j, j < k → (nthBk L j).n ≠ v) ∧ w = wr)
  case atStart => exact ⟨0, Nat.zero_le _, rfl, rfl, fun j hj => absurd hj (Nat.not_lt_zero _), rfl⟩
  case round =>
    obtain ⟨k, hk, rfl, rfl, hno, rfl⟩ := hrel
    have NO := hiddenN hno
    clear hno
    by_cases hlt : k < len
    · have hki : (k : Int) < (len : Int) := by omega
      have hkL : k < L.length := by rw [HLEN.out]; exact hlt
      rcases HL.out with e | ⟨lb, lo, rfl, hc⟩
      · rw [e] at hkL; exact absurd hkL (Nat.not_lt_zero _)
      obtain ⟨c0, -, -⟩ := hc k hkL
      have HKL := hiddenN hkL
      clear hc hkL
      obtain ⟨x, hx⟩ : ∃ x, (nthBk L k).n = x := ⟨_, rfl⟩
      rw [hx] at c0
      have HX := hiddenN hx
      clear hx
      cases he : x == v with
      | true =>
        have ee : x = v := by simpa using he
        have FH := hiddenN (fin_here (s := 0) HKL.out NO.out (by rw [HX.out]; exact ee))
        clear ee
        go_wp2
        go_ret
        rw [FH.out, Nat.zero_add]
        exact ⟨rfl, rfl⟩
      | false =>
        have NX : Hid (∀ j, j < k + 1 → (nthBk L j).n ≠ v) := fun j hj => by
          by_cases e : j = k
          · rw [e, HX.out]; simpa using he
          · exact NO.out j (by omega)
        go_wp2
        go_roundg (len - (k + 1))
        case measure => omega
        case rel => exact ⟨k + 1, by omega, rfl, by go_num, NX.out, rfl⟩
    · have ek : len = k := by omega
      subst ek
      have hkk : ¬ (len : Int) < (len : Int) := by omega
      have FN := hiddenN (fin_none (s := 0) (by rw [HLEN.out]; exact NO.out))
      go_wp2
      go_ret
      rw [FN.out]
      exact ⟨rfl, rfl⟩
/-- What whole answers. -/
def WhoE (w : World) (x : Bool) (e : Ending) (w' : World) : Prop := e = .returned (.bool x) ∧ Below w.heap.size w w'
set_option maxRecDepth 100000 in
set_option maxHeartbeats 16000000 in
theorem rwhole_any (n : NN) (a : Option Addr) (c : Nat) (L : List BK) (la : Option Addr) (len cap : Nat) (q : Nat) (w : World) (hA : AtN w a n.arcs) (hlen : L.length = len) (hr : len ≤ 4611686018427387904) (hL : AtK w la L) (hq : q < len) :
    Calls Try.prog 22 #[.agg #[.int .i64 n.nodes, .slice a n.arcs.length c], .slice la len cap, .int .i64 (q : Int)] w (WhoE w (wholeK n L q)) := by
  have FN : Hid (∀ v U, Below w.heap.size w U → Calls Try.prog 23 #[.slice la len cap, .int .i64 v] U fun e w' => e = .returned (.int .i64 (finK L v 0)) ∧ U = w') := fun v U hU => rfind_any L la len cap v U hlen hr (hL.below hU)
  have hqL : q < L.length := by rw [hlen]; exact hq
  have hqI : (q : Int) < (len : Int) := by omega
  rcases hL with e | ⟨lb, lo, rfl, hc⟩
  · rw [e] at hqL; exact absurd hqL (Nat.not_lt_zero _)
  obtain ⟨c0, c1, c2⟩ := hc q hqL
  clear hc
  have HW : Hid (wholeK n L q = (inK n.nodes (nthBk L q) && decide (finK L (nthBk L q).n 0 = (q : Int)) && linkK n L (nthBk L q))) := rfl
  rw [HW.out]
  clear HW
  generalize nthBk L q = x at *
  obtain ⟨bn, bf, ba⟩ := x
  simp only at c0 c1 c2
  obtain ⟨RE, hRE⟩ : ∃ R, WhoE w (inK n.nodes ⟨bn, bf, ba⟩ && decide (finK L bn 0 = (q : Int)) && linkK n L ⟨bn, bf, ba⟩) = R := ⟨_, rfl⟩
  rw [hRE]
  have HRE := hiddenN hRE
  have HA := hiddenN hA
  clear hRE hA hqL
  have b1 := (Below.refl w.heap.size w).alloc (Nat.le_refl _) (.cells #[.int .i64 n.nodes, .slice a n.arcs.length c] 24)
  have X1 := hiddenN (blkA_new 24 w #[.int .i64 n.nodes, .slice a n.arcs.length c])
  have B1 := hiddenN b1
  have d0 := cellN_later b1 c0
  have d1 := cellN_later b1 c1
  have d2 := cellN_later b1 c2
  clear b1 c0 c1 c2
  go_enter Try.func22, Try.ntmps22
  go_upto_region 1 with fail
  generalize w.alloc (.cells #[.int .i64 n.nodes, .slice a n.arcs.length c] 24) = W1 at *
  have b2 := (Below.refl W1.heap.size W1).alloc (Nat.le_refl _) (.cells #[.int .i64 bn, .int .i64 bf, .int .i64 ba] 42)
  have X2 := hiddenN (blkA_new 42 W1 #[.int .i64 bn, .int .i64 bf, .int .i64 ba])
  have X3 := hiddenN (X1.out.below b2)
  have B2 := hiddenN (B1.out.trans (b2.mono B1.out.size))
  go_upto_region 2 with fail
  generalize W1.alloc (.cells #[.int .i64 bn, .int .i64 bf, .int .i64 ba] 42) = W3 at *
  obtain ⟨xb, hxb⟩ : ∃ q, W1.heap.size = q := ⟨_, rfl⟩
  rw [hxb] at X2 ⊢
  clear hxb b2 d0 d1 d2 X1 B1
  have x0 := X2.out.cell (k := 0) rfl
  have x1 := X2.out.cell (k := 1) rfl
  have x2 := X2.out.cell (k := 2) rfl
  have y0 := X3.out.cell (k := 0) rfl
  have y1 := X3.out.cell (k := 1) rfl
  simp only [List.getElem_toArray, List.getElem_cons_zero, List.getElem_cons_succ] at x0 x1 x2 y0 y1
  have hC3 := B2
  cases h1 : decide (bn < 0) with
  | true =>
    go_wp2
    rw [← HRE.out]
    have e : inK n.nodes ⟨bn, bf, ba⟩ = false := decide_eq_false (by have := of_decide_eq_true h1; simp only; omega)
    rw [e]
    exact ⟨rfl, B2.out⟩
  | false =>
    cases h2 : decide (n.nodes ≤ bn) with
    | true =>
      go_wp2
      rw [← HRE.out]
      have e : inK n.nodes ⟨bn, bf, ba⟩ = false := decide_eq_false (by have := of_decide_eq_true h2; simp only; omega)
      rw [e]
      exact ⟨rfl, B2.out⟩
    | false =>
      have EI : Hid (inK n.nodes ⟨bn, bf, ba⟩ = true) := decide_eq_true (by have := of_decide_eq_false h1; have := of_decide_eq_false h2; simp only; omega)
      have F1 := hiddenN (FN.out bn W3 B2.out)
      obtain ⟨fz, hfz⟩ : ∃ z, finK L bn 0 = z := ⟨_, rfl⟩
      rw [hfz] at F1 HRE
      clear hfz
      cases h3 : fz != (q : Int) with
      | true =>
        go_wp2_with (go_at_call 23; (with_reducible refine F1.out.mono ?_); rintro e w4 ⟨rfl, hw4⟩; rw [← hw4]; clear hw4 w4)
        rw [← HRE.out]
        have e : decide (fz = (q : Int)) = false := by simpa using h3
        rw [e, Bool.and_false, Bool.false_and]
        exact ⟨rfl, B2.out⟩
      | false =>
        have ED : Hid (decide (fz = (q : Int)) = true) := by show _ = _; simpa using h3
        cases h4 : limK n ⟨bn, bf, ba⟩ with
        | false =>
          have HLI : Hid ((inK n.nodes ⟨bn, bf, ba⟩ && decide (fz = (q : Int)) && linkK n L ⟨bn, bf, ba⟩) = false) := by show _ = _; unfold linkK; rw [h4]; simp
          have HN : Hid (¬ (0 ≤ bf ∧ bf ≤ 4096 ∧ 0 ≤ ba ∧ ba < (n.arcs.length : Int))) := fun h => (by rw [limK_iff.2 h] at h4; cases h4)
          clear h4
          cases h5 : decide (bf < 0) with
          | true =>
            go_wp2_with (go_at_call 23; (with_reducible refine F1.out.mono ?_); rintro e w4 ⟨rfl, hw4⟩; rw [← hw4]; clear hw4 w4)
            rw [← HRE.out, HLI.out]
            exact ⟨rfl, B2.out⟩
          | false =>
            cases h6 : decide (4096 < bf) with
            | true =>
              go_wp2_with (go_at_call 23; (with_reducible refine F1.out.mono ?_); rintro e w4 ⟨rfl, hw4⟩; rw [← hw4]; clear hw4 w4)
              rw [← HRE.out, HLI.out]
              exact ⟨rfl, B2.out⟩
            | false =>
              cases h7 : decide (ba < 0) with
              | true =>
                go_wp2_with (go_at_call 23; (with_reducible refine F1.out.mono ?_); rintro e w4 ⟨rfl, hw4⟩; rw [← hw4]; clear hw4 w4)
                rw [← HRE.out, HLI.out]
                exact ⟨rfl, B2.out⟩
              | false =>
                have h8 : decide ((n.arcs.length : Int) ≤ ba) = true := by
                  have a1 := of_decide_eq_false h5
                  have a2 := of_decide_eq_false h6
                  have a3 := of_decide_eq_false h7
                  have a4 := HN.out
                  exact decide_eq_true (by omega)
                clear HN
                go_wp2_with (go_at_call 23; (with_reducible refine F1.out.mono ?_); rintro e w4 ⟨rfl, hw4⟩; rw [← hw4]; clear hw4 w4)
                rw [← HRE.out, HLI.out]
                exact ⟨rfl, B2.out⟩
        | true =>
          obtain ⟨f1, f2, a1', a2'⟩ := limK_iff.1 h4
          simp only at f1 f2 a1' a2'
          obtain ⟨i, rfl⟩ : ∃ i : Nat, ba = (i : Int) := ⟨ba.toNat, by omega⟩
          have hil : i < n.arcs.length := by omega
          have hix : (i : Int) < (n.arcs.length : Int) := by omega
          have h5 : decide (bf < 0) = false := decide_eq_false (by omega)
          have h6 : decide (4096 < bf) = false := decide_eq_false (by omega)
          have EL : Hid (linkK n L ⟨bn, bf, i⟩ = (decide ((nthNa n.arcs i).t = bn) && hasK L (nthNa n.arcs i).f)) := by show _ = _; unfold linkK; rw [h4]; rfl
          rcases HA.out.below B2.out with e | ⟨ab, ao, rfl, hc⟩
          · rw [e] at hil; exact absurd hil (Nat.not_lt_zero _)
          obtain ⟨a0, a1, -⟩ := hc i hil
          clear hc f1 f2 a1' a2' h4
          generalize nthNa n.arcs i = xa at *
          obtain ⟨f, t, gg, kk, ss⟩ := xa
          simp only at a0 a1 EL
          have FC := fin_cases L f
          have FN2 := hiddenN (FN.out f)
          have HC2 := hiddenN (B2.out)
          go_upto_region 6 with (go_at_call 23; (with_reducible refine F1.out.mono ?_); rintro e w4 ⟨rfl, hw4⟩; rw [← hw4]; clear hw4 w4)
          clear FN F1
          have FN := FN2
          clear FN2
          obtain ⟨fy, hfy⟩ : ∃ z, finK L f 0 = z := ⟨_, rfl⟩
          rw [hfy] at FN FC
          have HS : Hid (hasK L f = decide (0 ≤ fy)) := by
            show _ = _
            rcases FC with ⟨e1, e2⟩ | ⟨k2, -, e1, e2, -⟩
            · rw [e2, e1]; rfl
            · rw [e2, e1]; simp
          clear hfy FC
          cases htb : t == bn with
          | false =>
            have ET : Hid (decide (t = bn) = false) := by show _ = _; simpa using htb
            refine wp_region_gen [] (fun d_ i_ u_ z_ => match i_ with
                | 0 => z_ = .pointer (some ⟨w.heap.size, 1, none⟩)
                | 1 => z_ = .slice (some ⟨ab, ao, none⟩) n.arcs.length c
                | 2 => z_ = .pointer (some ⟨xb, 2, none⟩)
                | 3 => z_ = .int .i64 (i : Int)
                | 4 => z_ = .pointer (some ⟨ab, ao + i * 5, none⟩)
                | 5 => z_ = .pointer (some ⟨ab, ao + i * 5 + 1, none⟩)
                | 6 => z_ = .int .i64 t
                | 7 => z_ = .pointer (some ⟨xb, 0, none⟩)
                | 8 => z_ = .int .i64 bn
                | 9 => z_ = .bool false
                | 10 => z_ = .bool false
                | 11 => z_ = undef
                | 12 => z_ = undef
                | 13 => z_ = undef
                | 14 => z_ = undef
                | 15 => z_ = undef
                | 16 => z_ = undef
                | 17 => z_ = undef
                | 18 => z_ = undef
                | 19 => z_ = undef
                | 20 => z_ = undef
                | 21 => z_ = .bool false
                | 22 => z_ = .bool false
                | _ => True) (fun d_ u_ => Below W3.heap.size W3 u_) (by kernel_rfl) (by kernel_rfl) (by kernel_rfl) ?_ ?_ ?_ ?_ ?_ ?_ (by kernel_rfl)
            · intro d_ i_ w_ v_ w' h hb
              match i_, h with
              | 0, h => exact h
              | 1, h => exact h
              | 2, h => exact h
              | 3, h => exact h
              | 4, h => exact h
              | 5, h => exact h
              | 6, h => exact h
              | 7, h => exact h
              | 8, h => exact h
              | 9, h => exact h
              | 10, h => exact h
              | 11, h => exact h
              | 12, h => exact h
              | 13, h => exact h
              | 14, h => exact h
              | 15, h => exact h
              | 16, h => exact h
              | 17, h => exact h
              | 18, h => exact h
              | 19, h => exact h
              | 20, h => exact h
              | 21, h => exact h
              | 22, h => exact h
              | _ + 23, _ => trivial
            · intro d_ u_ u' h hb
              exact h.trans (hb.mono h.size)
            · exact Below.refl _ _
            · intro d_ i_ o ρ w' hm ho hf hg hC hcs hfs hfr hdep
              match i_, hm, ho, hf, hg, hfr, hdep with
              | 0, _, ho, hf, hg, hfr, hdep =>
                simp only [gTA, gCZ, gSI] at ho
                subst ho
                refine ⟨fun _ => ?_, fun hw => absurd (show true = false from hw) (by decide)⟩
                have ts : ρ (.tmp 3) = .pointer (some ⟨w.heap.size, 0, none⟩) := hfr 3 (by kernel_rfl)
                simp [go_sem, ts]
                exact ⟨Below.refl _ _, rfl⟩
              | 1, _, ho, hf, hg, hfr, hdep =>
                simp only [gTA, gCZ, gCS, gSI] at ho
                subst ho
                refine ⟨fun _ => ?_, fun hw => absurd (show true = false from hw) (by decide)⟩
                have kc := cellN_later hC y1
                have d0 : ρ (.tmp 51) = .pointer (some ⟨w.heap.size, 1, none⟩) := hdep 0 51 (by kernel_rfl) (by kernel_rfl)
                simp [go_sem, d0, kc]
                exact ⟨Below.refl _ _, rfl⟩
              | 2, _, ho, hf, hg, hfr, hdep =>
                simp only [gTA, gCZ, gCS, gSI] at ho
                subst ho
                refine ⟨fun _ => ?_, fun hw => absurd (show true = false from hw) (by decide)⟩
                have ts : ρ (.tmp 7) = .pointer (some ⟨xb, 0, none⟩) := hfr 7 (by kernel_rfl)
                simp [go_sem, ts]
                exact ⟨Below.refl _ _, rfl⟩
              | 3, _, ho, hf, hg, hfr, hdep =>
                simp only [gTA, gCZ, gCS, gSI] at ho
                subst ho
                refine ⟨fun _ => ?_, fun hw => absurd (show true = false from hw) (by decide)⟩
                have kc := cellN_later hC x2
                have d0 : ρ (.tmp 53) = .pointer (some ⟨xb, 2, none⟩) := hdep 2 53 (by kernel_rfl) (by kernel_rfl)
                simp [go_sem, d0, kc]
                exact ⟨Below.refl _ _, rfl⟩
              | 4, _, ho, hf, hg, hfr, hdep =>
                simp only [gTA, gCZ, gCS, gSI] at ho
                subst ho
                refine ⟨fun _ => ?_, fun hw => absurd (show true = false from hw) (by decide)⟩
                have d0 : ρ (.tmp 52) = .slice (some ⟨ab, ao, none⟩) n.arcs.length c := hdep 1 52 (by kernel_rfl) (by kernel_rfl)
                have d1 : ρ (.tmp 54) = .int .i64 (i : Int) := hdep 3 54 (by kernel_rfl) (by kernel_rfl)
                simp [go_sem, d0, d1, hil]
                exact ⟨Below.refl _ _, rfl⟩
              | 5, _, ho, hf, hg, hfr, hdep =>
                simp only [gTA, gCZ, gCS, gSI] at ho
                subst ho
                refine ⟨fun _ => ?_, fun hw => absurd (show true = false from hw) (by decide)⟩
                have d0 : ρ (.tmp 55) = .pointer (some ⟨ab, ao + i * 5, none⟩) := hdep 4 55 (by kernel_rfl) (by kernel_rfl)
                simp [go_sem, d0]
                exact ⟨Below.refl _ _, rfl⟩
              | 6, _, ho, hf, hg, hfr, hdep =>
                simp only [gTA, gCZ, gCS, gSI] at ho
                subst ho
                refine ⟨fun _ => ?_, fun hw => absurd (show true = false from hw) (by decide)⟩
                have kc := cellN_later hC a1
                have d0 : ρ (.tmp 56) = .pointer (some ⟨ab, ao + i * 5 + 1, none⟩) := hdep 5 56 (by kernel_rfl) (by kernel_rfl)
                simp [go_sem, d0, kc]
                exact ⟨Below.refl _ _, rfl⟩
              | 7, _, ho, hf, hg, hfr, hdep =>
                simp only [gTA, gCZ, gCS, gSI] at ho
                subst ho
                refine ⟨fun _ => ?_, fun hw => absurd (show true = false from hw) (by decide)⟩
                have ts : ρ (.tmp 7) = .pointer (some ⟨xb, 0, none⟩) := hfr 7 (by kernel_rfl)
                simp [go_sem, ts]
                exact ⟨Below.refl _ _, rfl⟩
              | 8, _, ho, hf, hg, hfr, hdep =>
                simp only [gTA, gCZ, gCS, gSI] at ho
                subst ho
                refine ⟨fun _ => ?_, fun hw => absurd (show true = false from hw) (by decide)⟩
                have kc := cellN_later hC x0
                have d0 : ρ (.tmp 58) = .pointer (some ⟨xb, 0, none⟩) := hdep 7 58 (by kernel_rfl) (by kernel_rfl)
                simp [go_sem, d0, kc]
                exact ⟨Below.refl _ _, rfl⟩
              | 9, _, ho, hf, hg, hfr, hdep =>
                simp only [gTA, gCZ, gCS, gSI] at ho
                subst ho
                refine ⟨fun _ => ?_, fun hw => absurd (show true = false from hw) (by decide)⟩
                have d0 : ρ (.tmp 57) = .int .i64 t := hdep 6 57 (by kernel_rfl) (by kernel_rfl)
                have d1 : ρ (.tmp 59) = .int .i64 bn := hdep 8 59 (by kernel_rfl) (by kernel_rfl)
                simp [go_sem, d0, d1, htb]
                exact ⟨Below.refl _ _, rfl⟩
              | 10, _, ho, hf, hg, hfr, hdep =>
                simp only [gTA, gCZ, gCS, gSI] at ho
                subst ho
                refine ⟨fun _ => ?_, fun hw => absurd (show true = false from hw) (by decide)⟩
                have d0 : ρ (.tmp 60) = .bool false := hdep 9 60 (by kernel_rfl) (by kernel_rfl)
                simp [go_sem, d0]
                exact ⟨Below.refl _ _, rfl⟩
              | 11, _, ho, hf, hg, hfr, hdep =>
                simp only [gTA, gCZ, gCS, gSI] at ho
                subst ho
                have gd : ρ (.tmp 61) = .bool false := hdep 10 61 (by kernel_rfl) (by kernel_rfl)
                exact ⟨fun hw => absurd (show (match ρ (.tmp 61) with | .bool c => c == true | _ => false) = true from hw) (by rw [gd]; decide), fun _ => rfl⟩
              | 12, _, ho, hf, hg, hfr, hdep =>
                simp only [gTA, gCZ, gCS, gSI] at ho
                subst ho
                have gd : ρ (.tmp 61) = .bool false := hdep 10 61 (by kernel_rfl) (by kernel_rfl)
                exact ⟨fun hw => absurd (show (match ρ (.tmp 61) with | .bool c => c == true | _ => false) = true from hw) (by rw [gd]; decide), fun _ => rfl⟩
              | 13, _, ho, hf, hg, hfr, hdep =>
                simp only [gTA, gCZ, gCS, gSI] at ho
                subst ho
                have gd : ρ (.tmp 61) = .bool false := hdep 10 61 (by kernel_rfl) (by kernel_rfl)
                exact ⟨fun hw => absurd (show (match ρ (.tmp 61) with | .bool c => c == true | _ => false) = true from hw) (by rw [gd]; decide), fun _ => rfl⟩
              | 14, _, ho, hf, hg, hfr, hdep =>
                simp only [gTA, gCZ, gCS, gSI] at ho
                subst ho
                have gd : ρ (.tmp 61) = .bool false := hdep 10 61 (by kernel_rfl) (by kernel_rfl)
                exact ⟨fun hw => absurd (show (match ρ (.tmp 61) with | .bool c => c == true | _ => false) = true from hw) (by rw [gd]; decide), fun _ => rfl⟩
              | 15, _, ho, hf, hg, hfr, hdep =>
                simp only [gTA, gCZ, gCS, gSI] at ho
                subst ho
                have gd : ρ (.tmp 61) = .bool false := hdep 10 61 (by kernel_rfl) (by kernel_rfl)
                exact ⟨fun hw => absurd (show (match ρ (.tmp 61) with | .bool c => c == true | _ => false) = true from hw) (by rw [gd]; decide), fun _ => rfl⟩
              | 16, _, ho, hf, hg, hfr, hdep =>
                simp only [gTA, gCZ, gCS, gSI] at ho
                subst ho
                have gd : ρ (.tmp 61) = .bool false := hdep 10 61 (by kernel_rfl) (by kernel_rfl)
                exact ⟨fun hw => absurd (show (match ρ (.tmp 61) with | .bool c => c == true | _ => false) = true from hw) (by rw [gd]; decide), fun _ => rfl⟩
              | 17, _, ho, hf, hg, hfr, hdep =>
                simp only [gTA, gCZ, gCS, gSI] at ho
                subst ho
                have gd : ρ (.tmp 61) = .bool false := hdep 10 61 (by kernel_rfl) (by kernel_rfl)
                exact ⟨fun hw => absurd (show (match ρ (.tmp 61) with | .bool c => c == true | _ => false) = true from hw) (by rw [gd]; decide), fun _ => rfl⟩
              | 18, _, ho, hf, hg, hfr, hdep =>
                simp only [gTA, gCZ, gCS, gSI] at ho
                subst ho
                have gd : ρ (.tmp 61) = .bool false := hdep 10 61 (by kernel_rfl) (by kernel_rfl)
                exact ⟨fun hw => absurd (show (match ρ (.tmp 61) with | .bool c => c == true | _ => false) = true from hw) (by rw [gd]; decide), fun _ => rfl⟩
              | 19, _, ho, hf, hg, hfr, hdep =>
                simp only [gTA, gCZ, gCS, gSI] at ho
                subst ho
                have gd : ρ (.tmp 61) = .bool false := hdep 10 61 (by kernel_rfl) (by kernel_rfl)
                exact ⟨fun hw => absurd (show (match ρ (.tmp 61) with | .bool c => c == true | _ => false) = true from hw) (by rw [gd]; decide), fun _ => rfl⟩
              | 20, _, ho, hf, hg, hfr, hdep =>
                simp only [gTA, gCZ, gCS, gSI] at ho
                subst ho
                have gd : ρ (.tmp 61) = .bool false := hdep 10 61 (by kernel_rfl) (by kernel_rfl)
                exact ⟨fun hw => absurd (show (match ρ (.tmp 61) with | .bool c => c == true | _ => false) = true from hw) (by rw [gd]; decide), fun _ => rfl⟩
              | 21, _, ho, hf, hg, hfr, hdep =>
                simp only [gTA, gCZ, gCS, gSI] at ho
                subst ho
                refine ⟨fun _ => ?_, fun hw => absurd (show true = false from hw) (by decide)⟩
                have d0 : ρ (.tmp 61) = .bool false := hdep 10 61 (by kernel_rfl) (by kernel_rfl)
                simp [go_sem, d0, hcs]
                exact ⟨Below.refl _ _, rfl⟩
              | 22, _, ho, hf, hg, hfr, hdep =>
                simp only [gTA, gCZ, gCS, gSI] at ho
                subst ho
                refine ⟨fun _ => ?_, fun hw => absurd (show true = false from hw) (by decide)⟩
                have d0 : ρ (.tmp 72) = .bool false := hdep 21 72 (by kernel_rfl) (by kernel_rfl)
                simp [go_sem, d0]
                exact ⟨Below.refl _ _, rfl⟩
              | n + 23, _, ho, _, _, _, _ => simp at ho
            · intro d_ i_ o ρ w' hm ho h0 hf hg hC hcs hfs hfr hdep
              exact absurd hm (by simp)
            · intro U1 W6 hC6 hS
              have e22 : U1 22 = .bool false := hS 22 (by decide) (by intro h; cases h)
              simp only [puts, e22]
              simp only [Act.put, List.setIfInBounds_toArray, List.set_cons_zero, List.set_cons_succ]
              clear hS e22
              have L7 := hiddenN (B2.out.trans (hC6.mono B2.out.size))
              go_wp2
              rw [← HRE.out, EL.out, ET.out, Bool.false_and, Bool.and_false]
              exact ⟨rfl, L7.out⟩
          | true =>
            have ET : Hid (decide (t = bn) = true) := by show _ = _; simpa using htb
            refine wp_region_gen [] (fun d_ i_ u_ z_ => match i_ with
                | 0 => z_ = .pointer (some ⟨w.heap.size, 1, none⟩)
                | 1 => z_ = .slice (some ⟨ab, ao, none⟩) n.arcs.length c
                | 2 => z_ = .pointer (some ⟨xb, 2, none⟩)
                | 3 => z_ = .int .i64 (i : Int)
                | 4 => z_ = .pointer (some ⟨ab, ao + i * 5, none⟩)
                | 5 => z_ = .pointer (some ⟨ab, ao + i * 5 + 1, none⟩)
                | 6 => z_ = .int .i64 t
                | 7 => z_ = .pointer (some ⟨xb, 0, none⟩)
                | 8 => z_ = .int .i64 bn
                | 9 => z_ = .bool true
                | 10 => z_ = .bool true
                | 11 => z_ = .slice (some ⟨lb, lo, none⟩) len cap
                | 12 => z_ = .pointer (some ⟨w.heap.size, 1, none⟩)
                | 13 => z_ = .slice (some ⟨ab, ao, none⟩) n.arcs.length c
                | 14 => z_ = .pointer (some ⟨xb, 2, none⟩)
                | 15 => z_ = .int .i64 (i : Int)
                | 16 => z_ = .pointer (some ⟨ab, ao + i * 5, none⟩)
                | 17 => z_ = .pointer (some ⟨ab, ao + i * 5, none⟩)
                | 18 => z_ = .int .i64 f
                | 19 => z_ = .int .i64 fy
                | 20 => z_ = .bool (decide (0 ≤ fy))
                | 21 => z_ = .bool (decide (0 ≤ fy))
                | 22 => z_ = .bool (decide (0 ≤ fy))
                | _ => True) (fun d_ u_ => Below W3.heap.size W3 u_) (by kernel_rfl) (by kernel_rfl) (by kernel_rfl) ?_ ?_ ?_ ?_ ?_ ?_ (by kernel_rfl)
            · intro d_ i_ w_ v_ w' h hb
              match i_, h with
              | 0, h => exact h
              | 1, h => exact h
              | 2, h => exact h
              | 3, h => exact h
              | 4, h => exact h
              | 5, h => exact h
              | 6, h => exact h
              | 7, h => exact h
              | 8, h => exact h
              | 9, h => exact h
              | 10, h => exact h
              | 11, h => exact h
              | 12, h => exact h
              | 13, h => exact h
              | 14, h => exact h
              | 15, h => exact h
              | 16, h => exact h
              | 17, h => exact h
              | 18, h => exact h
              | 19, h => exact h
              | 20, h => exact h
              | 21, h => exact h
              | 22, h => exact h
              | _ + 23, _ => trivial
            · intro d_ u_ u' h hb
              exact h.trans (hb.mono h.size)
            · exact Below.refl _ _
            · intro d_ i_ o ρ w' hm ho hf hg hC hcs hfs hfr hdep
              match i_, hm, ho, hf, hg, hfr, hdep with
              | 0, _, ho, hf, hg, hfr, hdep =>
                simp only [gTA, gCZ, gSI] at ho
                subst ho
                refine ⟨fun _ => ?_, fun hw => absurd (show true = false from hw) (by decide)⟩
                have ts : ρ (.tmp 3) = .pointer (some ⟨w.heap.size, 0, none⟩) := hfr 3 (by kernel_rfl)
                simp [go_sem, ts]
                exact ⟨Below.refl _ _, rfl⟩
              | 1, _, ho, hf, hg, hfr, hdep =>
                simp only [gTA, gCZ, gCS, gSI] at ho
                subst ho
                refine ⟨fun _ => ?_, fun hw => absurd (show true = false from hw) (by decide)⟩
                have kc := cellN_later hC y1
                have d0 : ρ (.tmp 51) = .pointer (some ⟨w.heap.size, 1, none⟩) := hdep 0 51 (by kernel_rfl) (by kernel_rfl)
                simp [go_sem, d0, kc]
                exact ⟨Below.refl _ _, rfl⟩
              | 2, _, ho, hf, hg, hfr, hdep =>
                simp only [gTA, gCZ, gCS, gSI] at ho
                subst ho
                refine ⟨fun _ => ?_, fun hw => absurd (show true = false from hw) (by decide)⟩
                have ts : ρ (.tmp 7) = .pointer (some ⟨xb, 0, none⟩) := hfr 7 (by kernel_rfl)
                simp [go_sem, ts]
                exact ⟨Below.refl _ _, rfl⟩
              | 3, _, ho, hf, hg, hfr, hdep =>
                simp only [gTA, gCZ, gCS, gSI] at ho
                subst ho
                refine ⟨fun _ => ?_, fun hw => absurd (show true = false from hw) (by decide)⟩
                have kc := cellN_later hC x2
                have d0 : ρ (.tmp 53) = .pointer (some ⟨xb, 2, none⟩) := hdep 2 53 (by kernel_rfl) (by kernel_rfl)
                simp [go_sem, d0, kc]
                exact ⟨Below.refl _ _, rfl⟩
              | 4, _, ho, hf, hg, hfr, hdep =>
                simp only [gTA, gCZ, gCS, gSI] at ho
                subst ho
                refine ⟨fun _ => ?_, fun hw => absurd (show true = false from hw) (by decide)⟩
                have d0 : ρ (.tmp 52) = .slice (some ⟨ab, ao, none⟩) n.arcs.length c := hdep 1 52 (by kernel_rfl) (by kernel_rfl)
                have d1 : ρ (.tmp 54) = .int .i64 (i : Int) := hdep 3 54 (by kernel_rfl) (by kernel_rfl)
                simp [go_sem, d0, d1, hil]
                exact ⟨Below.refl _ _, rfl⟩
              | 5, _, ho, hf, hg, hfr, hdep =>
                simp only [gTA, gCZ, gCS, gSI] at ho
                subst ho
                refine ⟨fun _ => ?_, fun hw => absurd (show true = false from hw) (by decide)⟩
                have d0 : ρ (.tmp 55) = .pointer (some ⟨ab, ao + i * 5, none⟩) := hdep 4 55 (by kernel_rfl) (by kernel_rfl)
                simp [go_sem, d0]
                exact ⟨Below.refl _ _, rfl⟩
              | 6, _, ho, hf, hg, hfr, hdep =>
                simp only [gTA, gCZ, gCS, gSI] at ho
                subst ho
                refine ⟨fun _ => ?_, fun hw => absurd (show true = false from hw) (by decide)⟩
                have kc := cellN_later hC a1
                have d0 : ρ (.tmp 56) = .pointer (some ⟨ab, ao + i * 5 + 1, none⟩) := hdep 5 56 (by kernel_rfl) (by kernel_rfl)
                simp [go_sem, d0, kc]
                exact ⟨Below.refl _ _, rfl⟩
              | 7, _, ho, hf, hg, hfr, hdep =>
                simp only [gTA, gCZ, gCS, gSI] at ho
                subst ho
                refine ⟨fun _ => ?_, fun hw => absurd (show true = false from hw) (by decide)⟩
                have ts : ρ (.tmp 7) = .pointer (some ⟨xb, 0, none⟩) := hfr 7 (by kernel_rfl)
                simp [go_sem, ts]
                exact ⟨Below.refl _ _, rfl⟩
              | 8, _, ho, hf, hg, hfr, hdep =>
                simp only [gTA, gCZ, gCS, gSI] at ho
                subst ho
                refine ⟨fun _ => ?_, fun hw => absurd (show true = false from hw) (by decide)⟩
                have kc := cellN_later hC x0
                have d0 : ρ (.tmp 58) = .pointer (some ⟨xb, 0, none⟩) := hdep 7 58 (by kernel_rfl) (by kernel_rfl)
                simp [go_sem, d0, kc]
                exact ⟨Below.refl _ _, rfl⟩
              | 9, _, ho, hf, hg, hfr, hdep =>
                simp only [gTA, gCZ, gCS, gSI] at ho
                subst ho
                refine ⟨fun _ => ?_, fun hw => absurd (show true = false from hw) (by decide)⟩
                have d0 : ρ (.tmp 57) = .int .i64 t := hdep 6 57 (by kernel_rfl) (by kernel_rfl)
                have d1 : ρ (.tmp 59) = .int .i64 bn := hdep 8 59 (by kernel_rfl) (by kernel_rfl)
                simp [go_sem, d0, d1, htb]
                exact ⟨Below.refl _ _, rfl⟩
              | 10, _, ho, hf, hg, hfr, hdep =>
                simp only [gTA, gCZ, gCS, gSI] at ho
                subst ho
                refine ⟨fun _ => ?_, fun hw => absurd (show true = false from hw) (by decide)⟩
                have d0 : ρ (.tmp 60) = .bool true := hdep 9 60 (by kernel_rfl) (by kernel_rfl)
                simp [go_sem, d0]
                exact ⟨Below.refl _ _, rfl⟩
              | 11, _, ho, hf, hg, hfr, hdep =>
                simp only [gTA, gCZ, gCS, gSI] at ho
                subst ho
                have gd : ρ (.tmp 61) = .bool true := hdep 10 61 (by kernel_rfl) (by kernel_rfl)
                refine ⟨fun _ => ?_, fun hw => absurd (show (match ρ (.tmp 61) with | .bool c => c == true | _ => false) = false from hw) (by rw [gd]; decide)⟩
                clear gd
                have ts : ρ (.tmp 1) = .slice (some ⟨lb, lo, none⟩) len cap := hfr 1 (by kernel_rfl)
                simp [go_sem, ts]
                exact ⟨Below.refl _ _, rfl⟩
              | 12, _, ho, hf, hg, hfr, hdep =>
                simp only [gTA, gCZ, gCS, gSI] at ho
                subst ho
                have gd : ρ (.tmp 61) = .bool true := hdep 10 61 (by kernel_rfl) (by kernel_rfl)
                refine ⟨fun _ => ?_, fun hw => absurd (show (match ρ (.tmp 61) with | .bool c => c == true | _ => false) = false from hw) (by rw [gd]; decide)⟩
                clear gd
                have ts : ρ (.tmp 3) = .pointer (some ⟨w.heap.size, 0, none⟩) := hfr 3 (by kernel_rfl)
                simp [go_sem, ts]
                exact ⟨Below.refl _ _, rfl⟩
              | 13, _, ho, hf, hg, hfr, hdep =>
                simp only [gTA, gCZ, gCS, gSI] at ho
                subst ho
                have gd : ρ (.tmp 61) = .bool true := hdep 10 61 (by kernel_rfl) (by kernel_rfl)
                refine ⟨fun _ => ?_, fun hw => absurd (show (match ρ (.tmp 61) with | .bool c => c == true | _ => false) = false from hw) (by rw [gd]; decide)⟩
                clear gd
                have kc := cellN_later hC y1
                have d0 : ρ (.tmp 63) = .pointer (some ⟨w.heap.size, 1, none⟩) := hdep 12 63 (by kernel_rfl) (by kernel_rfl)
                simp [go_sem, d0, kc]
                exact ⟨Below.refl _ _, rfl⟩
              | 14, _, ho, hf, hg, hfr, hdep =>
                simp only [gTA, gCZ, gCS, gSI] at ho
                subst ho
                have gd : ρ (.tmp 61) = .bool true := hdep 10 61 (by kernel_rfl) (by kernel_rfl)
                refine ⟨fun _ => ?_, fun hw => absurd (show (match ρ (.tmp 61) with | .bool c => c == true | _ => false) = false from hw) (by rw [gd]; decide)⟩
                clear gd
                have ts : ρ (.tmp 7) = .pointer (some ⟨xb, 0, none⟩) := hfr 7 (by kernel_rfl)
                simp [go_sem, ts]
                exact ⟨Below.refl _ _, rfl⟩
              | 15, _, ho, hf, hg, hfr, hdep =>
                simp only [gTA, gCZ, gCS, gSI] at ho
                subst ho
                have gd : ρ (.tmp 61) = .bool true := hdep 10 61 (by kernel_rfl) (by kernel_rfl)
                refine ⟨fun _ => ?_, fun hw => absurd (show (match ρ (.tmp 61) with | .bool c => c == true | _ => false) = false from hw) (by rw [gd]; decide)⟩
                clear gd
                have kc := cellN_later hC x2
                have d0 : ρ (.tmp 65) = .pointer (some ⟨xb, 2, none⟩) := hdep 14 65 (by kernel_rfl) (by kernel_rfl)
                simp [go_sem, d0, kc]
                exact ⟨Below.refl _ _, rfl⟩
              | 16, _, ho, hf, hg, hfr, hdep =>
                simp only [gTA, gCZ, gCS, gSI] at ho
                subst ho
                have gd : ρ (.tmp 61) = .bool true := hdep 10 61 (by kernel_rfl) (by kernel_rfl)
                refine ⟨fun _ => ?_, fun hw => absurd (show (match ρ (.tmp 61) with | .bool c => c == true | _ => false) = false from hw) (by rw [gd]; decide)⟩
                clear gd
                have d0 : ρ (.tmp 64) = .slice (some ⟨ab, ao, none⟩) n.arcs.length c := hdep 13 64 (by kernel_rfl) (by kernel_rfl)
                have d1 : ρ (.tmp 66) = .int .i64 (i : Int) := hdep 15 66 (by kernel_rfl) (by kernel_rfl)
                simp [go_sem, d0, d1, hil]
                exact ⟨Below.refl _ _, rfl⟩
              | 17, _, ho, hf, hg, hfr, hdep =>
                simp only [gTA, gCZ, gCS, gSI] at ho
                subst ho
                have gd : ρ (.tmp 61) = .bool true := hdep 10 61 (by kernel_rfl) (by kernel_rfl)
                refine ⟨fun _ => ?_, fun hw => absurd (show (match ρ (.tmp 61) with | .bool c => c == true | _ => false) = false from hw) (by rw [gd]; decide)⟩
                clear gd
                have d0 : ρ (.tmp 67) = .pointer (some ⟨ab, ao + i * 5, none⟩) := hdep 16 67 (by kernel_rfl) (by kernel_rfl)
                simp [go_sem, d0]
                exact ⟨Below.refl _ _, rfl⟩
              | 18, _, ho, hf, hg, hfr, hdep =>
                simp only [gTA, gCZ, gCS, gSI] at ho
                subst ho
                have gd : ρ (.tmp 61) = .bool true := hdep 10 61 (by kernel_rfl) (by kernel_rfl)
                refine ⟨fun _ => ?_, fun hw => absurd (show (match ρ (.tmp 61) with | .bool c => c == true | _ => false) = false from hw) (by rw [gd]; decide)⟩
                clear gd
                have kc := cellN_later hC a0
                have d0 : ρ (.tmp 68) = .pointer (some ⟨ab, ao + i * 5, none⟩) := hdep 17 68 (by kernel_rfl) (by kernel_rfl)
                simp [go_sem, d0, kc]
                exact ⟨Below.refl _ _, rfl⟩
              | 19, _, ho, hf, hg, hfr, hdep =>
                simp only [gTA, gCZ, gCS, gSI] at ho
                subst ho
                have gd : ρ (.tmp 61) = .bool true := hdep 10 61 (by kernel_rfl) (by kernel_rfl)
                refine ⟨fun _ => ?_, fun hw => absurd (show (match ρ (.tmp 61) with | .bool c => c == true | _ => false) = false from hw) (by rw [gd]; decide)⟩
                clear gd
                have t0 : ρ (.tmp 62) = .slice (some ⟨lb, lo, none⟩) len cap := hdep 11 62 (by kernel_rfl) (by kernel_rfl)
                have t1 : ρ (.tmp 69) = .int .i64 f := hdep 18 69 (by kernel_rfl) (by kernel_rfl)
                simp [go_sem, t0, t1, hfs]
                exact ⟨rfl, (FN.out w' (hC3.out.trans (hC.mono hC3.out.size))).mono fun e' w'' hh => ⟨_, hh.1, by rw [← hh.2]; exact Below.refl _ _, rfl⟩⟩
              | 20, _, ho, hf, hg, hfr, hdep =>
                simp only [gTA, gCZ, gCS, gSI] at ho
                subst ho
                have gd : ρ (.tmp 61) = .bool true := hdep 10 61 (by kernel_rfl) (by kernel_rfl)
                refine ⟨fun _ => ?_, fun hw => absurd (show (match ρ (.tmp 61) with | .bool c => c == true | _ => false) = false from hw) (by rw [gd]; decide)⟩
                clear gd
                have d0 : ρ (.tmp 70) = .int .i64 fy := hdep 19 70 (by kernel_rfl) (by kernel_rfl)
                simp [go_sem, d0, hcs]
                exact ⟨Below.refl _ _, rfl⟩
              | 21, _, ho, hf, hg, hfr, hdep =>
                simp only [gTA, gCZ, gCS, gSI] at ho
                subst ho
                refine ⟨fun _ => ?_, fun hw => absurd (show true = false from hw) (by decide)⟩
                have d0 : ρ (.tmp 61) = .bool true := hdep 10 61 (by kernel_rfl) (by kernel_rfl)
                have d1 : ρ (.tmp 71) = .bool (decide (0 ≤ fy)) := hdep 20 71 (by kernel_rfl) (by kernel_rfl)
                simp [go_sem, d0, d1]
                exact ⟨Below.refl _ _, rfl⟩
              | 22, _, ho, hf, hg, hfr, hdep =>
                simp only [gTA, gCZ, gCS, gSI] at ho
                subst ho
                refine ⟨fun _ => ?_, fun hw => absurd (show true = false from hw) (by decide)⟩
                have d0 : ρ (.tmp 72) = .bool (decide (0 ≤ fy)) := hdep 21 72 (by kernel_rfl) (by kernel_rfl)
                simp [go_sem, d0]
                exact ⟨Below.refl _ _, rfl⟩
              | n + 23, _, ho, _, _, _, _ => simp at ho
            · intro d_ i_ o ρ w' hm ho h0 hf hg hC hcs hfs hfr hdep
              exact absurd hm (by simp)
            · intro U1 W6 hC6 hS
              have e22 : U1 22 = .bool (decide (0 ≤ fy)) := hS 22 (by decide) (by intro h; cases h)
              simp only [puts, e22]
              simp only [Act.put, List.setIfInBounds_toArray, List.set_cons_zero, List.set_cons_succ]
              clear hS e22
              have L7 := hiddenN (B2.out.trans (hC6.mono B2.out.size))
              go_wp2
              rw [← HRE.out, EL.out, ET.out, EI.out, ED.out, HS.out]
              exact ⟨by simp, L7.out⟩
def BoxK (B : Nat) (T : TypeId) (z0 vals : Array Value) (done : Bool) (u : World) (z : Value) : Prop := ∃ xb, z = .pointer (some ⟨xb, 0, none⟩) ∧ B ≤ xb ∧ BlkA T xb u (if done then vals else z0)
theorem BoxK.later {B : Nat} {T : TypeId} {z0 vals : Array Value} {done : Bool} {u u' : World} {z : Value} (h : BoxK B T z0 vals done u z) (hb : Below u.heap.size u u') : BoxK B T z0 vals done u' z := by
  obtain ⟨xb, h1, h2, h3⟩ := h
  exact ⟨xb, h1, h2, h3.below hb⟩
set_option maxRecDepth 100000 in
set_option maxHeartbeats 4000000 in
theorem sameK_any (L : List BK) (a b : Option Addr) (len ca cb : Nat) (w : World) (hlen : L.length = len) (ha : AtK w a L) (hb : AtK w b L) (hl : len ≤ 4611686018427387904) : Calls Try.prog 11 #[.slice a len ca, .slice b len cb] w fun e w' => e = .returned (.bool true) ∧ Below w.heap.size w w' := by
  have HA := hiddenN ha
  have HB := hiddenN hb
  have HN := hiddenN hlen
  clear ha hb hlen
  have q1 : ((len : Int) != (len : Int)) = false := by simp
  go_enter Try.func11, Try.ntmps11
  go_wp2
  clear q1
  go_loopg [5] len (fun gk v wr => ∃ k : Nat, k ≤ len ∧ gk = len - k ∧ v = .int .i64 (k : Int) ∧ Below w.heap.size w wr)
  case atStart => exact ⟨0, Nat.zero_le _, rfl, rfl, Below.refl _ _⟩
  case round =>
    obtain ⟨k, hkN, rfl, rfl, hBr⟩ := hrel
    have BR := hiddenN hBr
    clear hBr
    by_cases hlt : k < len
    · have hki : (k : Int) < (len : Int) := by omega
      have hkL : k < L.length := by rw [HN.out]; exact hlt
      rcases HA.out.below BR.out with e | ⟨ba, oa, rfl, hca⟩
      · rw [e] at hkL; exact absurd hkL (Nat.not_lt_zero _)
      rcases HB.out.below BR.out with e | ⟨bb, ob, rfl, hcb⟩
      · rw [e] at hkL; exact absurd hkL (Nat.not_lt_zero _)
      obtain ⟨a0, a1, a2⟩ := hca k hkL
      obtain ⟨b0, b1, b2⟩ := hcb k hkL
      clear hca hcb hkL
      generalize nthBk L k = x at *
      obtain ⟨x0, x1, x2⟩ := x
      simp only at a0 a1 a2 b0 b1 b2
      have p0 : (x0 == x0) = true := by simp
      have p1 : (x1 == x1) = true := by simp
      have p2 : (x2 == x2) = true := by simp
      go_wp2
      go_quiet (fail)
      go_wp2
      go_roundg (len - (k + 1))
      case measure => omega
      case rel => exact ⟨k + 1, by omega, rfl, by go_num, drewB BR.out _⟩
    · have ek : len = k := by omega
      subst ek
      have hki : ¬ (len : Int) < (len : Int) := by omega
      go_wp2
      go_ret
      exact ⟨rfl, BR.out⟩
set_option maxRecDepth 100000 in
set_option maxHeartbeats 4000000 in
theorem blocked_any (L : List BK) (la : Option Addr) (len cap : Nat) (w : World) (h : ArgK w la len cap L) : Calls Try.prog 7 #[.slice la len cap] w fun e w' => ∃ d c, e = .returned (.slice d len c) ∧ AtK w' d L ∧ Below w.heap.size w w' := by
  have hl := h.len
  subst hl
  have HN := hiddenN h.none
  have HL := hiddenN h.lies
  have hr := h.room
  clear h
  obtain ⟨RE, hRE⟩ : ∃ R, (fun (e : Ending) (w' : World) => ∃ d c, e = .returned (.slice d L.length c) ∧ AtK w' d L ∧ Below w.heap.size w w') = R := ⟨_, rfl⟩
  rw [hRE]
  have HRE := hiddenN hRE
  clear hRE
  go_enter Try.func7, Try.ntmps7
  go_wp2_with (at_builtin; refine wpList_appB rfl _ _ rfl w.heap.size none 0 [] rfl (CapB.nil _ _) la cap L rfl HN.out HL.out (by simp; omega) (Nat.le_refl _) L.length L (by simp) rfl ?_; intro d3 c3 V3 hd3 b3; have C3 := hiddenN hd3; have B3 := hiddenN b3; clear hd3 b3)
  rw [← HRE.out]
  exact ⟨d3, c3, rfl, C3.out.at, B3.out⟩
set_option maxRecDepth 100000 in
set_option maxHeartbeats 16000000 in
theorem rconfirm_any (n : NN) (a : Option Addr) (c : Nat) (L : List BK) (la : Option Addr) (len cap : Nat) (w : World) (hA : AtN w a n.arcs) (hl : n.arcs.length ≤ 4611686018427387904) (hlen : L.length = len) (hr : len ≤ 4611686018427387904) (hL : AtK w la L) :
    Calls Try.prog 10 #[.agg #[.int .i64 n.nodes, .slice a n.arcs.length c], .slice la len cap] w (ConE w (conK n L)) := by
  have FN : Hid (∀ v U, Below w.heap.size w U → Calls Try.prog 23 #[.slice la len cap, .int .i64 v] U fun e w' => e = .returned (.int .i64 (finK L v 0)) ∧ U = w') := fun v U hU => rfind_any L la len cap v U hlen hr (hL.below hU)
  have WH : Hid (∀ q U, q < len → Below w.heap.size w U → Calls Try.prog 22 #[.agg #[.int .i64 n.nodes, .slice a n.arcs.length c], .slice la len cap, .int .i64 (q : Int)] U (WhoE U (wholeK n L q))) := fun q U hq hU => rwhole_any n a c L la len cap q U (hA.below hU) hlen hr (hL.below hU) hq
  have CK : Hid (∀ W, Below w.heap.size w W → Calls Try.prog 21 #[.agg #[.int .i64 n.nodes, .slice a n.arcs.length c]] W fun e w' => e = .returned (.int .i64 (checkN n)) ∧ Below W.heap.size W w') := fun W hW => rcheck10_any n a c W (hA.below hW) hl
  have b1 := (Below.refl w.heap.size w).alloc (Nat.le_refl _) (.cells #[.int .i64 n.nodes, .slice a n.arcs.length c] 24)
  have X1 := hiddenN (blkA_new 24 w #[.int .i64 n.nodes, .slice a n.arcs.length c])
  have y0 := X1.out.cell (k := 0) rfl
  have y1 := X1.out.cell (k := 1) rfl
  simp only [List.getElem_toArray, List.getElem_cons_zero, List.getElem_cons_succ] at y0 y1
  have B1 := hiddenN b1
  have HLEN := hiddenN hlen
  have HA := hiddenN hA
  have HL := hiddenN hL
  clear b1 hlen hA hL
  obtain ⟨RE, hRE⟩ : ∃ R, ConE w (conK n L) = R := ⟨_, rfl⟩
  rw [hRE]
  have HRE := hiddenN hRE
  clear hRE
  by_cases hc : checkN n = 0
  · have HC := hiddenN hc
    have HS := hiddenN (check_sound hc)
    have WC := hiddenN (whole_con (L := L) hc)
    rw [hc] at CK
    clear hc
    go_enter Try.func10, Try.ntmps10
    go_upto_region 1 with fail
    generalize w.alloc (.cells #[.int .i64 n.nodes, .slice a n.arcs.length c] 24) = W1 at *
    go_upto_region 4 with (go_at_call 21; (with_reducible refine (CK.out _ B1.out).mono ?_); rintro e W2 ⟨rfl, b2⟩; have B2 := hiddenN (B1.out.trans (b2.mono B1.out.size)); have X2 := hiddenN (X1.out.below b2); clear b2 CK)
    clear y0 y1 X1 B1
    have y0 := X2.out.cell (k := 0) rfl
    have y1 := X2.out.cell (k := 1) rfl
    simp only [List.getElem_toArray, List.getElem_cons_zero, List.getElem_cons_succ] at y0 y1
    by_cases h0 : len = 0
    · have h0i : ((len : Int) == 0) = true := by simp; exact h0
      have H0 := hiddenN h0
      clear h0
      go_wp2
      rw [← HRE.out, con_empty HC.out (by rw [HLEN.out]; exact H0.out)]
      exact ⟨rfl, B2.out⟩
    · have h0i : ((len : Int) == 0) = false := by simp; exact h0
      have H0 := hiddenN h0
      clear h0
      cases h1 : decide (n.nodes < (len : Int)) with
      | true =>
        have NC : Hid (conK n L = 140) := con_not HC.out fun h => by have := (WC.out.1 h).1.2; rw [HLEN.out] at this; have := of_decide_eq_true h1; omega
        go_wp2
        rw [← HRE.out, NC.out]
        exact ⟨rfl, B2.out⟩
      | false =>
        have HM : Hid ((len : Int) ≤ n.nodes) := by have := of_decide_eq_false h1; show _ ≤ _; omega
        go_wp2
        clear y0 y1 h1
        go_loopg [6] len (fun gk i wr => ∃ k : Nat, k ≤ len ∧ gk = len - k ∧ i = .int .i64 (k : Int) ∧ (∀ j, j < k → wholeK n L j = true) ∧ BlkA 24 w.heap.size wr #[.int .i64 n.nodes, .slice a n.arcs.length c] ∧ Below w.heap.size w wr)
        case atStart => exact ⟨0, Nat.zero_le _, rfl, rfl, fun j hj => absurd hj (Nat.not_lt_zero _), X2.out, B2.out⟩
        case round =>
          clear X2 B2
          obtain ⟨k, hk, rfl, rfl, hal, hX, hB⟩ := hrel
          have AL := hiddenN hal
          have XN := hiddenN hX
          have BW := hiddenN hB
          clear hal hX hB
          have y0 := XN.out.cell (k := 0) rfl
          have y1 := XN.out.cell (k := 1) rfl
          simp only [List.getElem_toArray, List.getElem_cons_zero, List.getElem_cons_succ] at y0 y1
          by_cases hlt : k < len
          · have hki : (k : Int) < (len : Int) := by omega
            have W1 := hiddenN (WH.out k wr hlt BW.out)
            cases hw : wholeK n L k with
            | false =>
              rw [hw] at W1
              have NC : Hid (conK n L = 140) := con_not HC.out fun h => by have := (WC.out.1 h).2 k (by rw [HLEN.out]; exact hlt); rw [hw] at this; cases this
              clear hw
              go_wp2_with (go_at_call 22; (with_reducible refine W1.out.mono ?_); rintro e w4 ⟨rfl, b4⟩)
              rw [← HRE.out, NC.out]
              exact ⟨rfl, BW.out.trans (b4.mono BW.out.size)⟩
            | true =>
              rw [hw] at W1
              have NX : Hid (∀ j, j < k + 1 → wholeK n L j = true) := fun j hj => by
                by_cases e : j = k
                · rw [e]; exact hw
                · exact AL.out j (by omega)
              clear hw
              go_wp2_with (go_at_call 22; (with_reducible refine W1.out.mono ?_); rintro e w4 ⟨rfl, b4⟩; have B4 := hiddenN b4; clear b4)
              go_roundg (len - (k + 1))
              case measure => omega
              case rel => exact ⟨k + 1, by omega, rfl, by go_num, NX.out, XN.out.below B4.out, BW.out.trans (B4.out.mono BW.out.size)⟩
          · have ek : len = k := by omega
            subst ek
            have hkk : ¬ (len : Int) < (len : Int) := by omega
            have CC := hiddenN (WC.out.2 ⟨⟨by rw [HLEN.out]; exact H0.out, by rw [HLEN.out]; exact HM.out⟩, by rw [HLEN.out]; exact AL.out⟩)
            have X0 := XN
            have B0 := BW
            clear XN BW AL WH WC y0 y1
            go_wp2
            go_loopg [7] len (fun gk i wr => ∃ k : Nat, k ≤ len ∧ gk = len - k ∧ i = .int .i64 (k : Int) ∧ (∀ j, j < k → looK n L (nthBk L j) = false) ∧ BlkA 24 w.heap.size wr #[.int .i64 n.nodes, .slice a n.arcs.length c] ∧ Below w.heap.size w wr)
            case atStart => exact ⟨0, Nat.zero_le _, rfl, rfl, fun j hj => absurd hj (Nat.not_lt_zero _), X0.out, B0.out⟩
            case round =>
              clear X0 B0
              obtain ⟨k, hk, rfl, rfl, hal, hX, hB⟩ := hrel
              have AL := hiddenN hal
              have XN := hiddenN hX
              have BW := hiddenN hB
              clear hal hX hB
              by_cases hlt : k < len
              · have hki : (k : Int) < (len : Int) := by omega
                have hkL : k < L.length := by rw [HLEN.out]; exact hlt
                rcases HL.out.below BW.out with e | ⟨lb, lo, rfl, hcl⟩
                · rw [e] at hkL; exact absurd hkL (Nat.not_lt_zero _)
                obtain ⟨d0, d1, d2⟩ := hcl k hkL
                have MEM := hiddenN (nthBk_mem hkL)
                clear hcl hkL
                obtain ⟨x, hx⟩ : ∃ x, nthBk L k = x := ⟨_, rfl⟩
                rw [hx] at d0 d1 d2 MEM
                have EX := hiddenN hx
                clear hx
                obtain ⟨bn, bf, ba⟩ := x
                simp only at d0 d1 d2
                have lk := linkK_iff.1 (CC.out.link _ MEM.out)
                have hbf := lk.f
                have hba := lk.a
                have hhas := lk.has
                simp only at hbf hba
                obtain ⟨i, rfl⟩ : ∃ i : Nat, ba = (i : Int) := ⟨ba.toNat, by omega⟩
                have hil : i < n.arcs.length := by omega
                have hilI : (i : Int) < (n.arcs.length : Int) := by omega
                have hsa := HS.out.arcs i hil
                have hgf := (linkK_iff.1 (CC.out.link _ (atK_has hhas).1)).f
                have FC := fin_cases L (nthNa n.arcs i).f
                have EL : Hid (looK n L ⟨bn, bf, (i : Int)⟩ = decide ((nthNa n.arcs i).k * (bf + 1) ≤ (nthNa n.arcs i).s + (nthNa n.arcs i).g * (atK L (nthNa n.arcs i).f).f)) := rfl
                rcases HA.out.below BW.out with e | ⟨ab, ao, rfl, hca⟩
                · rw [e] at hil; exact absurd hil (Nat.not_lt_zero _)
                obtain ⟨a0, a1, a2, a3, a4⟩ := hca i hil
                unfold arcK at hgf hhas
                simp only [Int.toNat_natCast] at hgf hhas
                clear hca lk hba
                generalize nthNa n.arcs i = xa at *
                obtain ⟨f, t, gg, kk, ss⟩ := xa
                simp only at a0 a1 a2 a3 a4 EL hgf FC hhas
                obtain ⟨g1, k1, s1⟩ := (⟨hsa.g, hsa.k, hsa.s⟩ : (1 ≤ gg ∧ gg ≤ 64) ∧ (1 ≤ kk ∧ kk ≤ 64) ∧ (0 ≤ ss ∧ ss ≤ 256))
                obtain ⟨q, hqL, hfq, hat⟩ : ∃ q, q < L.length ∧ finK L f 0 = (q : Int) ∧ atK L f = nthBk L q := by
                  rcases FC with ⟨-, e2⟩ | ⟨q, e1, e2, -, -, -, e3⟩
                  · rw [hhas] at e2; cases e2
                  · exact ⟨q, e1, e2, e3⟩
                have FQ := hiddenN (fun U hU => FN.out f U hU)
                rw [hfq] at FQ
                rw [hat] at hgf EL
                have hqI : (q : Int) < (len : Int) := by rw [← HLEN.out]; omega
                rcases HL.out.below BW.out with e | ⟨lb', lo', el, hcq⟩
                · rw [e] at hqL; exact absurd hqL (Nat.not_lt_zero _)
                cases el
                have dq := (hcq q hqL).2.1
                obtain ⟨gf, hgfe⟩ : ∃ z, (nthBk L q).f = z := ⟨_, rfl⟩
                rw [hgfe] at dq EL hgf
                clear hcq hfq hat FC hgfe hhas hqL hsa
                have p1 := mul_small (x := gg) (y := gf) (a := 64) (b := 4096) (by omega) (by omega) (by decide)
                have p2 := mul_small (x := kk) (y := bf + 1) (a := 64) (b := 4097) (by omega) (by omega) (by decide)
                have u1 : wrap64 (gg * gf) = gg * gf := wrap64_id (by omega)
                have u2 : wrap64 (ss + gg * gf) = ss + gg * gf := wrap64_id (by omega)
                have u3 : wrap64 (bf + 1) = bf + 1 := wrap64_id (by omega)
                have u4 : wrap64 (kk * (bf + 1)) = kk * (bf + 1) := wrap64_id (by omega)
                have i1 := wrapN (gg * gf)
                have i2 := wrapN (ss + gg * gf)
                have i3 := wrapN (bf + 1)
                have i4 := wrapN (kk * (bf + 1))
                rw [u1] at i1
                rw [u2] at i2
                rw [u3] at i3
                rw [u4] at i4
                clear g1 k1 s1 p1 p2 hbf hgf
                have y1 := XN.out.cell (k := 1) rfl
                simp only [List.getElem_toArray, List.getElem_cons_zero, List.getElem_cons_succ] at y1
                go_upto_region 14 with fail
                refine wp_region_gen [10] (fun d_ i_ u_ z_ => match i_ with
                    | 0 => z_ = .pointer (some ⟨w.heap.size, 1, none⟩)
                    | 1 => z_ = .slice (some ⟨ab, ao, none⟩) n.arcs.length c
                    | 2 => z_ = .slice (some ⟨lb, lo, none⟩) len cap
                    | 3 => z_ = .int .i64 (k : Int)
                    | 4 => z_ = .pointer (some ⟨lb, lo + k * 3, none⟩)
                    | 5 => z_ = .pointer (some ⟨lb, lo + k * 3 + 2, none⟩)
                    | 6 => z_ = .int .i64 (i : Int)
                    | 7 => z_ = .pointer (some ⟨ab, ao + i * 5, none⟩)
                    | 8 => z_ = .agg #[.int .i64 f, .int .i64 t, .int .i64 gg, .int .i64 kk, .int .i64 ss]
                    | 9 => BoxK wr.heap.size 45 #[.int .i64 0, .int .i64 0, .int .i64 0, .int .i64 0, .int .i64 0] #[.int .i64 f, .int .i64 t, .int .i64 gg, .int .i64 kk, .int .i64 ss] (d_ 10) u_ z_
                    | 10 => True
                    | _ => True) (fun d_ u_ => Below wr.heap.size wr u_) (by kernel_rfl) (by kernel_rfl) (by kernel_rfl) ?_ ?_ ?_ ?_ ?_ ?_ (by kernel_rfl)
                · intro d_ i_ w_ v_ w' h hb
                  match i_, h with
                  | 0, h => exact h
                  | 1, h => exact h
                  | 2, h => exact h
                  | 3, h => exact h
                  | 4, h => exact h
                  | 5, h => exact h
                  | 6, h => exact h
                  | 7, h => exact h
                  | 8, h => exact h
                  | 9, h => exact h.later hb
                  | 10, h => exact h
                  | _ + 11, _ => trivial
                · intro d_ u_ u' h hb
                  exact h.trans (hb.mono h.size)
                · exact Below.refl _ _
                · intro d_ i_ o ρ w' hm ho hf hg hC hcs hfs hfr hdep
                  match i_, hm, ho, hf, hg, hfr, hdep with
                  | 0, _, ho, hf, hg, hfr, hdep =>
                    simp only [gTA, gCZ, gSI] at ho
                    subst ho
                    refine ⟨fun _ => ?_, fun hw => absurd (show true = false from hw) (by decide)⟩
                    have ts : ρ (.tmp 2) = .pointer (some ⟨w.heap.size, 0, none⟩) := hfr 2 (by kernel_rfl)
                    simp [go_sem, ts]
                    exact ⟨Below.refl _ _, rfl⟩
                  | 1, _, ho, hf, hg, hfr, hdep =>
                    simp only [gTA, gCZ, gCS, gSI] at ho
                    subst ho
                    refine ⟨fun _ => ?_, fun hw => absurd (show true = false from hw) (by decide)⟩
                    have kc := cellN_later hC y1
                    have d0 : ρ (.tmp 42) = .pointer (some ⟨w.heap.size, 1, none⟩) := hdep 0 42 (by kernel_rfl) (by kernel_rfl)
                    simp [go_sem, d0, kc]
                    exact ⟨Below.refl _ _, rfl⟩
                  | 2, _, ho, hf, hg, hfr, hdep =>
                    simp only [gTA, gCZ, gCS, gSI] at ho
                    subst ho
                    refine ⟨fun _ => ?_, fun hw => absurd (show true = false from hw) (by decide)⟩
                    have ts : ρ (.tmp 1) = .slice (some ⟨lb, lo, none⟩) len cap := hfr 1 (by kernel_rfl)
                    simp [go_sem, ts]
                    exact ⟨Below.refl _ _, rfl⟩
                  | 3, _, ho, hf, hg, hfr, hdep =>
                    simp only [gTA, gCZ, gCS, gSI] at ho
                    subst ho
                    refine ⟨fun _ => ?_, fun hw => absurd (show true = false from hw) (by decide)⟩
                    have ts : ρ (.tmp 7) = .int .i64 (k : Int) := hfr 7 (by kernel_rfl)
                    simp [go_sem, ts]
                    exact ⟨Below.refl _ _, rfl⟩
                  | 4, _, ho, hf, hg, hfr, hdep =>
                    simp only [gTA, gCZ, gCS, gSI] at ho
                    subst ho
                    refine ⟨fun _ => ?_, fun hw => absurd (show true = false from hw) (by decide)⟩
                    have d0 : ρ (.tmp 44) = .slice (some ⟨lb, lo, none⟩) len cap := hdep 2 44 (by kernel_rfl) (by kernel_rfl)
                    have d1 : ρ (.tmp 45) = .int .i64 (k : Int) := hdep 3 45 (by kernel_rfl) (by kernel_rfl)
                    simp [go_sem, d0, d1, hlt]
                    exact ⟨Below.refl _ _, rfl⟩
                  | 5, _, ho, hf, hg, hfr, hdep =>
                    simp only [gTA, gCZ, gCS, gSI] at ho
                    subst ho
                    refine ⟨fun _ => ?_, fun hw => absurd (show true = false from hw) (by decide)⟩
                    have d0 : ρ (.tmp 46) = .pointer (some ⟨lb, lo + k * 3, none⟩) := hdep 4 46 (by kernel_rfl) (by kernel_rfl)
                    simp [go_sem, d0]
                    exact ⟨Below.refl _ _, rfl⟩
                  | 6, _, ho, hf, hg, hfr, hdep =>
                    simp only [gTA, gCZ, gCS, gSI] at ho
                    subst ho
                    refine ⟨fun _ => ?_, fun hw => absurd (show true = false from hw) (by decide)⟩
                    have kc := cellN_later hC d2
                    have d0 : ρ (.tmp 47) = .pointer (some ⟨lb, lo + k * 3 + 2, none⟩) := hdep 5 47 (by kernel_rfl) (by kernel_rfl)
                    simp [go_sem, d0, kc]
                    exact ⟨Below.refl _ _, rfl⟩
                  | 7, _, ho, hf, hg, hfr, hdep =>
                    simp only [gTA, gCZ, gCS, gSI] at ho
                    subst ho
                    refine ⟨fun _ => ?_, fun hw => absurd (show true = false from hw) (by decide)⟩
                    have d0 : ρ (.tmp 43) = .slice (some ⟨ab, ao, none⟩) n.arcs.length c := hdep 1 43 (by kernel_rfl) (by kernel_rfl)
                    have d1 : ρ (.tmp 48) = .int .i64 (i : Int) := hdep 6 48 (by kernel_rfl) (by kernel_rfl)
                    simp [go_sem, d0, d1, hil]
                    exact ⟨Below.refl _ _, rfl⟩
                  | 8, _, ho, hf, hg, hfr, hdep =>
                    simp only [gTA, gCZ, gCS, gSI] at ho
                    subst ho
                    refine ⟨fun _ => ?_, fun hw => absurd (show true = false from hw) (by decide)⟩
                    have k0 := cellN_later hC a0
                    have k1 := cellN_later hC a1
                    have k2 := cellN_later hC a2
                    have k3 := cellN_later hC a3
                    have k4 := cellN_later hC a4
                    have d0 : ρ (.tmp 49) = .pointer (some ⟨ab, ao + i * 5, none⟩) := hdep 7 49 (by kernel_rfl) (by kernel_rfl)
                    simp [go_sem, d0, k0, k1, k2, k3, k4]
                    exact ⟨Below.refl _ _, rfl⟩
                  | 9, _, ho, hf, hg, hfr, hdep =>
                    simp only [gTA, gCZ, gCS, gSI] at ho
                    subst ho
                    refine ⟨fun _ => ?_, fun hw => absurd (show true = false from hw) (by decide)⟩
                    have h10 : d_ 10 = false := hf 10 (by decide) (by kernel_rfl)
                    simp [go_sem]
                    rw [h10]
                    exact ⟨(Below.refl _ _).alloc (Nat.le_refl _) _, w'.heap.size, rfl, hC.size, blkA_new 45 w' _⟩
                  | 10, hm, _, _, _, _, _ => exact absurd hm (by decide)
                  | n + 11, _, ho, _, _, _, _ => simp at ho
                · intro d_ i_ o ρ w' hm ho h0 hf hg hC hcs hfs hfr hdep
                  match i_, hm, ho, h0, hf, hg, hfr, hdep with
                  | 0, hm, _, _, _, _, _, _ => exact absurd hm (by decide)
                  | 1, hm, _, _, _, _, _, _ => exact absurd hm (by decide)
                  | 2, hm, _, _, _, _, _, _ => exact absurd hm (by decide)
                  | 3, hm, _, _, _, _, _, _ => exact absurd hm (by decide)
                  | 4, hm, _, _, _, _, _, _ => exact absurd hm (by decide)
                  | 5, hm, _, _, _, _, _, _ => exact absurd hm (by decide)
                  | 6, hm, _, _, _, _, _, _ => exact absurd hm (by decide)
                  | 7, hm, _, _, _, _, _, _ => exact absurd hm (by decide)
                  | 8, hm, _, _, _, _, _, _ => exact absurd hm (by decide)
                  | 9, hm, _, _, _, _, _, _ => exact absurd hm (by decide)
                  | 10, _, ho, h0, hf, hg, hfr, hdep =>
                    simp only [gTA, gCZ, gCS, gSI] at ho
                    subst ho
                    have t0 : ρ (.tmp 50) = .agg #[.int .i64 f, .int .i64 t, .int .i64 gg, .int .i64 kk, .int .i64 ss] := hdep 8 50 (by kernel_rfl) (by kernel_rfl)
                    have t9 : BoxK wr.heap.size 45 #[.int .i64 0, .int .i64 0, .int .i64 0, .int .i64 0, .int .i64 0] #[.int .i64 f, .int .i64 t, .int .i64 gg, .int .i64 kk, .int .i64 ss] (d_ 10) w' (ρ (.tmp 8)) := hdep 9 8 (by kernel_rfl) (by kernel_rfl)
                    rw [h0] at t9
                    obtain ⟨xb, e8, l8, b8⟩ := t9
                    have b8 : BlkA 45 xb w' #[.int .i64 0, .int .i64 0, .int .i64 0, .int .i64 0, .int .i64 0] := b8
                    have z0 : w'.cell? ⟨xb, 0, none⟩ = some (.int .i64 0) := b8.cell rfl
                    have z1 : w'.cell? ⟨xb, 1, none⟩ = some (.int .i64 0) := b8.cell rfl
                    have z2 : w'.cell? ⟨xb, 2, none⟩ = some (.int .i64 0) := b8.cell rfl
                    have z3 : w'.cell? ⟨xb, 3, none⟩ = some (.int .i64 0) := b8.cell rfl
                    have z4 : w'.cell? ⟨xb, 4, none⟩ = some (.int .i64 0) := b8.cell rfl
                    have f0 := b8.frozen 0
                    have f1 := b8.frozen 1
                    have f2 := b8.frozen 2
                    have f3 := b8.frozen 3
                    have f4 := b8.frozen 4
                    have hB := (((((b8.set 0 (.int .i64 f)).set 1 (.int .i64 t)).set 2 (.int .i64 gg)).set 3 (.int .i64 kk)).set 4 (.int .i64 ss))
                    have hbt := ((((But.set w' xb 0 (.int .i64 f)).trans (But.set _ xb 1 (.int .i64 t))).trans (But.set _ xb 2 (.int .i64 gg))).trans (But.set _ xb 3 (.int .i64 kk))).trans (But.set _ xb 4 (.int .i64 ss))
                    refine ⟨rfl, markUpon_skip (w' := ((((w'.setCell ⟨xb, 0, none⟩ (.int .i64 f)).setCell ⟨xb, 1, none⟩ (.int .i64 t)).setCell ⟨xb, 2, none⟩ (.int .i64 gg)).setCell ⟨xb, 3, none⟩ (.int .i64 kk)).setCell ⟨xb, 4, none⟩ (.int .i64 ss)) (by simp [go_sem, t0, e8, z0, z1, z2, z3, z4, f0, f1, f2, f3, f4]) ?_⟩
                    refine ⟨hC.trans (hbt.below l8 hC.size), fun h => absurd rfl h, ?_⟩
                    intro i_ t_ hi hs
                    match i_, hi, hs with
                    | 0, _, hs => exact hs
                    | 1, _, hs => exact hs
                    | 2, _, hs => exact hs
                    | 3, _, hs => exact hs
                    | 4, _, hs => exact hs
                    | 5, _, hs => exact hs
                    | 6, _, hs => exact hs
                    | 7, _, hs => exact hs
                    | 8, _, hs => exact hs
                    | 9, hi, hs => (cases hi; rw [doneAt_eq, e8]; exact ⟨xb, rfl, l8, hB⟩)
                    | 10, hi, hs => trivial
                    | _ + 11, _, _ => trivial
                  | n + 11, _, ho, _, _, _, _, _ => simp at ho
                · intro U1 W4 hC4 hS
                  obtain ⟨xb, e9, hx0, hx1⟩ : BoxK wr.heap.size 45 #[.int .i64 0, .int .i64 0, .int .i64 0, .int .i64 0, .int .i64 0] #[.int .i64 f, .int .i64 t, .int .i64 gg, .int .i64 kk, .int .i64 ss] true W4 (U1 9) := hS 9 (by decide) (by intro h; cases h)
                  simp only [puts, put_none, e9]
                  simp only [Act.put, List.setIfInBounds_toArray, List.set_cons_zero, List.set_cons_succ]
                  clear hS e9
                  have B4 := hiddenN (BW.out.trans (hC4.mono BW.out.size))
                  have XN4 := hiddenN (XN.out.below hC4)
                  have FQ4 := hiddenN (FQ.out W4 B4.out)
                  have hx1 : BlkA 45 xb W4 #[.int .i64 f, .int .i64 t, .int .i64 gg, .int .i64 kk, .int .i64 ss] := hx1
                  have x0 := hx1.cell (k := 0) rfl
                  have x2 := hx1.cell (k := 2) rfl
                  have x3 := hx1.cell (k := 3) rfl
                  have x4 := hx1.cell (k := 4) rfl
                  simp only [List.getElem_toArray, List.getElem_cons_zero, List.getElem_cons_succ] at x0 x2 x3 x4
                  have dq4 := cellN_later hC4 dq
                  have d14 := cellN_later hC4 d1
                  clear hC4 a0 a1 a2 a3 a4 d0 d1 d2 dq y1 hx0
                  cases hd : decide (kk * (bf + 1) ≤ ss + gg * gf) with
                  | true =>
                    rw [hd] at EL
                    go_upto_region 16 with (go_at_call 23; (with_reducible refine FQ4.out.mono ?_); rintro e w5 ⟨rfl, hw5⟩; rw [← hw5]; clear hw5 w5)
                    go_quiet (fail)
                    go_wp2
                    rw [← HRE.out, con_loo CC.out MEM.out EL.out]
                    exact ⟨rfl, drewB B4.out _⟩
                  | false =>
                    rw [hd] at EL
                    have NX : Hid (∀ j, j < k + 1 → looK n L (nthBk L j) = false) := fun j hj => by
                      by_cases e : j = k
                      · rw [e, EX.out]; exact EL.out
                      · exact AL.out j (by omega)
                    go_upto_region 16 with (go_at_call 23; (with_reducible refine FQ4.out.mono ?_); rintro e w5 ⟨rfl, hw5⟩; rw [← hw5]; clear hw5 w5)
                    go_quiet (fail)
                    go_wp2
                    go_roundg (len - (k + 1))
                    case measure => omega
                    case rel => exact ⟨k + 1, by omega, rfl, by go_num, NX.out, XN4.out.below (drewB (Below.refl _ _) _), drewB B4.out _⟩
              · have ek : len = k := by omega
                subst ek
                have hkk : ¬ (len : Int) < (len : Int) := by omega
                go_wp2
                rw [← HRE.out, con_hold CC.out (by rw [HLEN.out]; exact AL.out)]
                exact ⟨rfl, BW.out⟩
  · have hci : ((checkN n) != 0) = true := by simp; exact hc
    have HC := hiddenN (con_bad (L := L) hc)
    clear hc
    generalize checkN n = ce at *
    go_enter Try.func10, Try.ntmps10
    go_upto_region 1 with fail
    generalize w.alloc (.cells #[.int .i64 n.nodes, .slice a n.arcs.length c] 24) = W1 at *
    go_wp2_with (go_at_call 21; (with_reducible refine (CK.out _ B1.out).mono ?_); rintro e w2 ⟨rfl, b2⟩; have B2 := hiddenN (B1.out.trans (b2.mono B1.out.size)); clear b2 CK)
    rw [← HRE.out, HC.out]
    exact ⟨rfl, B2.out⟩
set_option maxRecDepth 100000 in
set_option maxHeartbeats 16000000 in
theorem stuckConfirms_walk (n : NN) (a : Option Addr) (c : Nat) (la : Option Addr) (len cap : Nat) (L : List BK) (w : World) (h : ArgN w a c n) (hk : ArgK w la len cap L) : Calls Try.prog 3 #[.agg #[.int .i64 n.nodes, .slice a n.arcs.length c], .slice la len cap] w fun e w' => e = .returned (.bool true) ∧ Below w.heap.size w w' := by
  have b0 := (Below.refl w.heap.size w).alloc (Nat.le_refl _) (.cells #[.int .i64 n.nodes, .slice a n.arcs.length c] 24)
  have G0 := hiddenN (blkA_new 24 w #[.int .i64 n.nodes, .slice a n.arcs.length c])
  have B0 := hiddenN b0
  have AW : Hid (∀ U, Calls Try.prog 13 #[] U fun e w' => e = .returned (.bool true) ∧ Below U.heap.size U w') := fun U => awake14 U
  have z0 := G0.out.cell (k := 0) rfl
  have z1 := G0.out.cell (k := 1) rfl
  simp only [List.getElem_toArray, List.getElem_cons_zero, List.getElem_cons_succ] at z0 z1
  clear b0
  have hal : n.arcs.length ≤ 4611686018427387904 := by have := h.room; omega
  have hll : len ≤ 4611686018427387904 := by have := hk.room; have := hk.len; omega
  have BL : Hid (∀ U, Below w.heap.size w U → Calls Try.prog 7 #[.slice la len cap] U fun e w' => ∃ d c, e = .returned (.slice d len c) ∧ AtK w' d L ∧ Below U.heap.size U w') := fun U hU => blocked_any L la len cap U (hk.below hU)
  have NM : Hid (∀ U, Below w.heap.size w U → Calls Try.prog 8 #[.agg #[.int .i64 n.nodes, .slice a n.arcs.length c]] U fun e w' => ∃ d c, e = .returned (.agg #[.int .i64 n.nodes, .slice d n.arcs.length c]) ∧ AtN w' d n.arcs ∧ Below U.heap.size U w') := fun U hU => (rnet_any n a c U (h.below hU)).mono fun e w' hh => by
    obtain ⟨d, cc, h1, h2, -, -, -, h3⟩ := hh
    exact ⟨d, cc, h1, h2, h3⟩
  have CO : Hid (∀ U dn cn d e, AtN U dn n.arcs → AtK U d L → Calls Try.prog 9 #[.agg #[.int .i64 n.nodes, .slice dn n.arcs.length cn], .slice d len e] U (ConE U (conK n L))) := fun U dn cn d e h1 h2 => confirm_any n dn cn L d len e U h1 hal hk.len hll h2 hk.ins
  have CR : Hid (∀ U, Below w.heap.size w U → Calls Try.prog 10 #[.agg #[.int .i64 n.nodes, .slice a n.arcs.length c], .slice la len cap] U (ConE U (conK n L))) := fun U hU => rconfirm_any n a c L la len cap U (h.lies.below hU) hal hk.len hll (hk.lies.below hU)
  have SK : Hid (∀ U d e, Below w.heap.size w U → AtK U d L → Calls Try.prog 11 #[.slice d len e, .slice la len cap] U fun e w' => e = .returned (.bool true) ∧ Below U.heap.size U w') := fun U d e hU h1 => sameK_any L d la len e cap U hk.len h1 (hk.lies.below hU) hll
  have SN : Hid (∀ U dn cn, Below w.heap.size w U → AtN U dn n.arcs → Calls Try.prog 12 #[.agg #[.int .i64 n.nodes, .slice dn n.arcs.length cn], .agg #[.int .i64 n.nodes, .slice a n.arcs.length c]] U fun e w' => e = .returned (.bool true) ∧ Below U.heap.size U w') := fun U dn cn hU h1 => sameNet_any n dn a cn c U h1 (h.lies.below hU) hal
  clear h hk
  obtain ⟨E, hE⟩ : ∃ E, conK n L = E := ⟨_, rfl⟩
  rw [hE] at CO CR
  clear hE
  have hEE : (E == E) = true := by simp
  go_enter Try.func3, Try.ntmps3
  go_upto_region 1 with fail
  generalize w.alloc (.cells #[.int .i64 n.nodes, .slice a n.arcs.length c] 24) = W0 at *
  go_upto_region 2 with (go_at_call 7; (with_reducible refine (BL.out _ B0.out).mono ?_); rintro e W1 ⟨d, e1, rfl, k1, b1⟩; have L1 := hiddenN (B0.out.trans (b1.mono B0.out.size)); have G1 := hiddenN (G0.out.below b1); have K1 := hiddenN k1; clear b1 k1)
  clear z0 z1 G0 B0 BL
  have y0 := G1.out.cell (k := 0) rfl
  have y1 := G1.out.cell (k := 1) rfl
  simp only [List.getElem_toArray, List.getElem_cons_zero, List.getElem_cons_succ] at y0 y1
  go_upto_region 3 with (go_at_call 8; (with_reducible refine (NM.out _ L1.out).mono ?_); rintro e W2 ⟨dn, cn, rfl, k2, b2⟩; have L2 := hiddenN (L1.out.trans (b2.mono L1.out.size)); have G2 := hiddenN (G1.out.below b2); have K2 := hiddenN (K1.out.below b2); have N2 := hiddenN k2; clear b2 k2)
  clear y0 y1 G1 L1 K1 NM
  have b3 := (Below.refl W2.heap.size W2).alloc (Nat.le_refl _) (.cells #[.int .i64 n.nodes, .slice dn n.arcs.length cn] 24)
  have M3 := hiddenN (blkA_new 24 W2 #[.int .i64 n.nodes, .slice dn n.arcs.length cn])
  have L3 := hiddenN (L2.out.trans (b3.mono L2.out.size))
  have G3 := hiddenN (G2.out.below b3)
  have K3 := hiddenN (K2.out.below b3)
  have N3 := hiddenN (N2.out.below b3)
  obtain ⟨mb, hmb⟩ : ∃ q, W2.heap.size = q := ⟨_, rfl⟩
  rw [hmb] at M3 ⊢
  clear b3 hmb L2 G2 K2 N2
  generalize W2.alloc (.cells #[.int .i64 n.nodes, .slice dn n.arcs.length cn] 24) = W3 at *
  have m0 := M3.out.cell (k := 0) rfl
  have m1 := M3.out.cell (k := 1) rfl
  simp only [List.getElem_toArray, List.getElem_cons_zero, List.getElem_cons_succ] at m0 m1
  go_upto_region 4 with (go_at_call 9; (with_reducible refine (CO.out _ _ _ _ _ N3.out K3.out).mono ?_); rintro e W4 ⟨rfl, b4⟩; have L4 := hiddenN (L3.out.trans (b4.mono L3.out.size)); have G4 := hiddenN (G3.out.below b4); have M4 := hiddenN (M3.out.below b4); have K4 := hiddenN (K3.out.below b4); have N4 := hiddenN (N3.out.below b4); clear b4)
  clear m0 m1 M3 L3 G3 K3 N3 CO
  have y0 := G4.out.cell (k := 0) rfl
  have y1 := G4.out.cell (k := 1) rfl
  simp only [List.getElem_toArray, List.getElem_cons_zero, List.getElem_cons_succ] at y0 y1
  go_wp2_with (first
    | (go_at_call 10; (with_reducible refine (CR.out _ L4.out).mono ?_); rintro e W5 ⟨rfl, b5⟩; have L5 := hiddenN (L4.out.trans (b5.mono L4.out.size)); have G5 := hiddenN (G4.out.below b5); have M5 := hiddenN (M4.out.below b5); have K5 := hiddenN (K4.out.below b5); have N5 := hiddenN (N4.out.below b5); clear b5 CR y0 y1)
    | (go_at_call 11; (with_reducible refine (SK.out _ _ _ L5.out K5.out).mono ?_); rintro e W6 ⟨rfl, b6⟩; have L6 := hiddenN (L5.out.trans (b6.mono L5.out.size)); have G6 := hiddenN (G5.out.below b6); have M6 := hiddenN (M5.out.below b6); have N6 := hiddenN (N5.out.below b6); have t0 := G6.out.cell (k := 0) rfl; have t1 := G6.out.cell (k := 1) rfl; have u0 := M6.out.cell (k := 0) rfl; have u1 := M6.out.cell (k := 1) rfl; simp only [List.getElem_toArray, List.getElem_cons_zero, List.getElem_cons_succ] at t0 t1 u0 u1; clear b6 SK)
    | (go_at_call 12; (with_reducible refine (SN.out _ _ _ L6.out N6.out).mono ?_); rintro e W7 ⟨rfl, b7⟩; have LZ := hiddenN (L6.out.trans (b7.mono L6.out.size)); clear b7 SN)
    | (go_at_call 13; (with_reducible refine (AW.out _).mono ?_); rintro e w9 ⟨rfl, b9⟩; have L9 := hiddenN (LZ.out.trans (b9.mono LZ.out.size)); clear b9))
  go_ret
  exact ⟨by first | rfl | simp, L9.out⟩
end Go.Proofs.Ytdgngmhapehldaa

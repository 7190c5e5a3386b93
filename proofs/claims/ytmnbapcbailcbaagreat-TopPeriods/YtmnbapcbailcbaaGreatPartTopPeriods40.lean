/- Texts of one chain, laid one behind the other. -/
import Derived.Test.YtmnbapcbailcbaaGreatPartTopPeriods39
import Derived.WalkSmall
import Derived.Test.YtmnbapcbailcbaaGreatPartTopPeriods15
import Derived.Deep.LoopGhost
import Derived.Deep.DeepCutAuto
namespace Go.Proofs.YtmnbapcbailcbaaGreat
open Go.ChangeShapes Go.WideShapes Go.ChangeAt Go.RowKit
def stepV (x : Nat × Bool) : List Value := [.int .i64 (x.1 : Int), .bool x.2]
def flatS : List (Nat × Bool) → List Value
  | [] => []
  | x :: L => stepV x ++ flatS L
def nthS (L : List (Nat × Bool)) (k : Nat) : Nat × Bool := L.getD k (0, false)
def celS (x : Nat × Bool) (j : Nat) : Value := if j = 0 then .int .i64 (x.1 : Int) else .bool x.2
theorem flatS_len : ∀ (L : List (Nat × Bool)), (flatS L).length = L.length * 2
  | [] => rfl
  | x :: L => by show (stepV x ++ flatS L).length = _; rw [List.length_append, flatS_len L, List.length_cons]; show 2 + _ = _; omega
theorem flatS_append : ∀ (L M : List (Nat × Bool)), flatS (L ++ M) = flatS L ++ flatS M
  | [], _ => rfl
  | x :: L, M => by show stepV x ++ flatS (L ++ M) = stepV x ++ flatS L ++ flatS M; rw [flatS_append L M, List.append_assoc]
theorem flatS_get : ∀ {L : List (Nat × Bool)} {k j : Nat}, k < L.length → j < 2 → (flatS L)[k * 2 + j]? = some (celS (nthS L k) j)
  | [], k, j, hk, _ => absurd hk (Nat.not_lt_zero _)
  | a :: L, 0, j, _, hj => by
    show (stepV a ++ flatS L)[0 * 2 + j]? = _
    rw [Nat.zero_mul, Nat.zero_add, List.getElem?_append_left (by show j < 2; exact hj)]
    match j, hj with
    | 0, _ => rfl
    | 1, _ => rfl
  | a :: L, k + 1, j, hk, hj => by
    show (stepV a ++ flatS L)[(k + 1) * 2 + j]? = _
    rw [List.getElem?_append_right (by show 2 ≤ _; omega)]
    have e : (k + 1) * 2 + j - (stepV a).length = k * 2 + j := by show (k + 1) * 2 + j - 2 = _; omega
    rw [e]
    exact flatS_get (Nat.lt_of_succ_lt_succ hk) hj
theorem flatS_one (L : List (Nat × Bool)) : ∀ u ∈ flatS L, u.oneCell' = true := by
  induction L with
  | nil => intro u hu; cases hu
  | cons a L ih =>
    intro u hu
    rcases List.mem_append.1 (show u ∈ stepV a ++ flatS L from hu) with h | h
    · simp [stepV] at h
      rcases h with rfl | rfl <;> rfl
    · exact ih u h
/-- Steps as they lie. -/
def AtS (w : World) (a : Option Addr) (L : List (Nat × Bool)) : Prop := L = [] ∨ ∃ b off, a = some ⟨b, off, none⟩ ∧ ∀ k, k < L.length → w.cell? ⟨b, off + k * 2, none⟩ = some (.int .i64 ((nthS L k).1 : Int)) ∧ w.cell? ⟨b, off + k * 2 + 1, none⟩ = some (.bool (nthS L k).2)
theorem AtS.below {w w' : World} {a : Option Addr} {L : List (Nat × Bool)} (h : AtS w a L) (hb : Below w.heap.size w w') : AtS w' a L := by
  rcases h with h | ⟨b, off, e, hc⟩
  · exact .inl h
  · exact .inr ⟨b, off, e, fun k hk => ⟨cellN_later hb (hc k hk).1, cellN_later hb (hc k hk).2⟩⟩
theorem AtS.flat {w : World} {ad : Addr} {L : List (Nat × Bool)} (h : AtS w (some ad) L) : ∀ j u, (flatS L)[j]? = some u → w.cell? (ad.add j) = some u := by
  intro j u hu
  have hj : j < L.length * 2 := by rw [← flatS_len]; exact (List.getElem?_eq_some_iff.1 hu).1
  rcases h with e | ⟨b, off, e, hc⟩
  · subst e; simp at hj
  · cases e
    have hk : j / 2 < L.length := by omega
    have e1 : j = j / 2 * 2 + j % 2 := by omega
    have hr : j % 2 < 2 := Nat.mod_lt _ (by decide)
    have h1 := flatS_get (L := L) hk hr
    rw [← e1, hu] at h1
    cases h1
    obtain ⟨c0, c1⟩ := hc (j / 2) hk
    have ea : (⟨b, off, none⟩ : Addr).add j = ⟨b, off + j / 2 * 2 + j % 2, none⟩ := by
      have e2 : off + j / 2 * 2 + j % 2 = off + j := by omega
      rw [e2]
      simp [Addr.add]
    rw [ea]
    clear ea e1
    generalize j / 2 = k at *
    generalize j % 2 = r at *
    match r, hr with
    | 0, _ => exact c0
    | 1, _ => exact c1
/-- A row of steps of a call's own, with room behind it. -/
def CapS (B : Nat) (w : World) (a : Option Addr) (c : Nat) (L : List (Nat × Bool)) : Prop := w.ownsRow B 122 2 (.slice a L.length c) L.length (flatS L)
theorem CapS.nil (B : Nat) (w : World) : CapS B w none 0 [] := World.ownsRow_nil _ _ _ _
theorem CapS.at {B : Nat} {w : World} {a : Option Addr} {c : Nat} {L : List (Nat × Bool)} (h : CapS B w a c L) : AtS w a L := by
  unfold CapS at h
  rcases h.2 with ⟨hv, hn⟩ | ⟨g, cap, cur, hv, hg, hh, hc, hm, hs, ht⟩
  · exact .inl (List.eq_nil_of_length_eq_zero hn)
  · cases hv
    refine .inr ⟨g, 0, rfl, fun k hk => ?_⟩
    have key : ∀ j, j < 2 → w.cell? ⟨g, k * 2 + j, none⟩ = some (celS (nthS L k) j) := fun j hj => by
      rw [h.cellAt (k * 2 + j) (by omega), flatS_get hk hj]
    rw [Nat.zero_add]
    exact ⟨key 0 (by decide), key 1 (by decide)⟩
theorem CapS.lt {B : Nat} {w : World} {a : Option Addr} {c : Nat} {L : List (Nat × Bool)} (h : CapS B w a c L) : ∀ x, a = some x → B ≤ x.block ∧ x.block < w.heap.size := by
  intro x hx
  rcases h.2 with ⟨hv, hn⟩ | ⟨g, cap, cur, hv, hg, hh, hc, hm, hs, ht⟩
  · simp at hv; rw [hv.1] at hx; cases hx
  · cases hv
    cases hx
    exact ⟨hg, (Array.getElem?_eq_some_iff.1 hh).1⟩
theorem CapS.none {B : Nat} {w : World} {a : Option Addr} {c : Nat} {L : List (Nat × Bool)} (h : CapS B w a c L) : a = Option.none → L.length = 0 ∧ c = 0 := by
  intro e
  rcases h.2 with ⟨hv, hn⟩ | ⟨g, cap, cur, hv, hg, hh, hc, hm, hs, ht⟩
  · simp at hv; exact ⟨hn, hv.2.2⟩
  · subst e; cases hv
theorem CapS.keep {B : Nat} {w w' : World} {a : Option Addr} {c : Nat} {L : List (Nat × Bool)} (h : CapS B w a c L) (hk : ∀ x, a = some x → w'.heap[x.block]? = w.heap[x.block]?) : CapS B w' a c L := by
  refine ⟨h.1, ?_⟩
  rcases h.2 with h2 | ⟨g, cap, cur, hv, hg, hh, r⟩
  · exact .inl h2
  · refine .inr ⟨g, cap, cur, hv, hg, ?_, r⟩
    cases hv
    rw [hk _ rfl]; exact hh
theorem CapS.later {B : Nat} {w w' : World} {a : Option Addr} {c : Nat} {L : List (Nat × Bool)} (h : CapS B w a c L) (hb : Below w.heap.size w w') : CapS B w' a c L := h.keep fun x hx => hb.block _ (h.lt x hx).2
theorem CapS.mono {B B' : Nat} {w : World} {a : Option Addr} {c : Nat} {L : List (Nat × Bool)} (h : CapS B w a c L) (hB : B' ≤ B) : CapS B' w a c L := by
  refine ⟨h.1, ?_⟩
  rcases h.2 with h2 | ⟨g, cap, cur, hv, hg, r⟩
  · exact .inl h2
  · exact .inr ⟨g, cap, cur, hv, Nat.le_trans hB hg, r⟩
/-- The last step taken away. -/
theorem CapS.pop {B : Nat} {w : World} {a : Option Addr} {c : Nat} {L : List (Nat × Bool)} {x : Nat × Bool} (h : CapS B w a c (L ++ [x])) : CapS B w a c L := by
  unfold CapS at h ⊢
  rw [flatS_append, List.length_append] at h
  rcases h.2 with ⟨hv, hn⟩ | ⟨g, cap, cur, hv, -⟩
  · exact absurd hn (Nat.succ_ne_zero _)
  · cases hv
    exact ownsRow_pop (flatS_len L) h
theorem CapS.room {B : Nat} {w : World} {a : Option Addr} {c : Nat} {L : List (Nat × Bool)} (h : CapS B w a c L) : L.length ≤ c ∧ c ≤ maxLen := by
  rcases h.2 with ⟨hv, hn⟩ | ⟨g, cap, cur, hv, hg, hh, hc, hm, r⟩
  · simp at hv; exact ⟨by omega, by omega⟩
  · cases hv; exact ⟨hc, hm⟩
theorem Tryz.infoStep : (Tryz.prog.info? 122).map (fun i => (i.zero, i.size, i.bytes)) = some (some (.agg #[.int .i64 0, .bool false]), 2, 16) := by kernel_rfl
theorem wpList_appS {w : World} {ops : Array Oper} {rest : List Oper} {o : Oper} {a : Act} {Q : Exit → Act → World → Prop} (hgd : o.guard = none) (s x : Operand) (ho : o.op = .call { callee := .builtin .append, args := #[s, x], argTypes := #[36, 36] })
    (B : Nat) (d0 : Option Addr) (c0 : Nat) (zs : List (Nat × Bool)) (hs : a.eval s = .slice d0 zs.length c0) (hown : CapS B w d0 c0 zs) (ad : Option Addr) (c : Nat) (ys : List (Nat × Bool)) (hx : a.eval x = .slice ad ys.length c) (hna : ad = none → ys.length = 0 ∧ c = 0) (hat : AtS w ad ys) (hb : (zs.length + ys.length) * 16 ≤ 140737488355328) (hB : B ≤ w.heap.size) (m : Nat) (R : List (Nat × Bool)) (hm : zs.length + ys.length = m) (hR : zs ++ ys = R)
    (h : ∀ d c' w', CapS B w' d c' R → Below B w w' → wpList Tryz.prog ops Q rest (a.put o.dst (.slice d m c')) w') : wpList Tryz.prog ops Q (o :: rest) a w := by
  subst hm
  subst hR
  obtain ⟨i0, hi, hz0, hz1, hz2⟩ := info_parts Tryz.infoStep
  cases ad with
  | none =>
    obtain ⟨h1, rfl⟩ := hna rfl
    have e : ys = [] := List.eq_nil_of_length_eq_zero h1
    subst e
    refine wpList_append_own_none hgd s x 36 ho B 122 i0 2 Tryz.underlying36 hi _ zs.length (flatS zs) hs hown hx ?_
    have := h d0 c0 w (by rw [List.append_nil]; exact hown) (Below.refl _ _)
    simpa using this
  | some ad =>
    refine wpList_append_own _ hgd s x 36 ho B 122 i0 _ 2 16 Tryz.underlying36 hi hz0 hz1 hz2 rfl (by decide) _ zs.length (flatS zs) hs hown ad ys.length c (flatS ys) hx (by rw [flatS_len]) (AtS.flat hat) (flatS_one ys) (by unfold maxLen; omega) (by omega) hB ?_
    intro v' w1 hown1 hgrow _
    have hown' : w1.ownsRow B 122 2 v' (zs.length + ys.length) (flatS (zs ++ ys)) := by rw [flatS_append]; exact hown1
    have hv : ∃ a' cap', v' = .slice a' (zs.length + ys.length) cap' := by
      rcases hown'.2 with ⟨hv, hn⟩ | ⟨g, cap, cur, hv, -⟩
      · exact ⟨none, 0, by rw [hv, hn]⟩
      · exact ⟨_, _, hv⟩
    obtain ⟨a', cap', rfl⟩ := hv
    refine h a' cap' w1 ?_ ((Below.refl _ _).grown hgrow hB (fun k hk => ?_))
    · unfold CapS
      rw [List.length_append]
      exact hown'
    · cases d0 with
      | none => cases hk
      | some y => cases hk; exact (hown.lt y rfl).1
def crossV (A : List NA) (j v : Nat) : Value := match crossF A j v with
  | some y => .tuple #[.int .i64 (y.1 : Int), .bool y.2, .bool true]
  | none => .tuple #[.int .i64 0, .bool false, .bool false]
set_option maxRecDepth 100000 in
set_option maxHeartbeats 2000000 in
theorem across_any (A : List NA) (j v : Nat) (x3 x4 x5 : Value) (w : World) : Calls Tryz.prog 101 #[.agg #[.int .i64 (fN A j : Int), .int .i64 (tN A j : Int), x3, x4, x5], .int .i64 (v : Int)] w fun e w' => e = .returned (crossV A j v) ∧ Below w.heap.size w w' := by
  have ba := (Below.refl w.heap.size w).alloc (Nat.le_refl _) (.cells #[.int .i64 (fN A j : Int), .int .i64 (tN A j : Int), x3, x4, x5] 61)
  have X := hiddenN (blkA_new 61 w #[.int .i64 (fN A j : Int), .int .i64 (tN A j : Int), x3, x4, x5])
  have BA := hiddenN ba
  unfold crossV crossF
  generalize fN A j = p at *
  generalize tN A j = r at *
  have y0 := X.out.cell (k := 0) rfl
  have y1 := X.out.cell (k := 1) rfl
  simp only [List.getElem_toArray, List.getElem_cons_zero, List.getElem_cons_succ] at y0 y1
  clear ba
  by_cases h1 : p = v
  · subst h1
    rw [if_pos rfl]
    go_enter Tryz.func101, Tryz.ntmps101
    go_upto_region 1 with fail
    generalize w.alloc (.cells #[.int .i64 (p : Int), .int .i64 (r : Int), x3, x4, x5] 61) = W0 at *
    go_wp2
    go_ret3
    exact ⟨rfl, BA.out⟩
  · rw [if_neg h1]
    by_cases h2 : r = v
    · subst h2
      rw [if_pos rfl]
      have h1' : ¬ r = p := fun e => h1 e.symm
      go_enter Tryz.func101, Tryz.ntmps101
      go_upto_region 1 with fail
      generalize w.alloc (.cells #[.int .i64 (p : Int), .int .i64 (r : Int), x3, x4, x5] 61) = W0 at *
      go_wp2
      go_ret3
      exact ⟨rfl, BA.out⟩
    · rw [if_neg h2]
      have h1' : ¬ v = p := fun e => h1 e.symm
      have h2' : ¬ v = r := fun e => h2 e.symm
      go_enter Tryz.func101, Tryz.ntmps101
      go_upto_region 1 with fail
      generalize w.alloc (.cells #[.int .i64 (p : Int), .int .i64 (r : Int), x3, x4, x5] 61) = W0 at *
      go_wp2
      go_ret3
      exact ⟨rfl, BA.out⟩
theorem tryF_none {A : List NA} {go : Nat → Nat → Option (List (Nat × Bool))} {v : Nat} {came : Option Nat} {j : Nat} {R : List Nat} (h : crossF A j v = none) : tryF A go v came (j :: R) = tryF A go v came R := by
  rw [tryF, h]
theorem tryF_came {A : List NA} {go : Nat → Nat → Option (List (Nat × Bool))} {v : Nat} {came : Option Nat} {j : Nat} {R : List Nat} {y : Nat × Bool} (h : crossF A j v = some y) (hc : came = some j) : tryF A go v came (j :: R) = tryF A go v came R := by
  rw [tryF, h]
  simp only
  rw [if_pos hc]
theorem tryF_past {A : List NA} {go : Nat → Nat → Option (List (Nat × Bool))} {v : Nat} {came : Option Nat} {j : Nat} {R : List Nat} {y : Nat × Bool} (h : crossF A j v = some y) (hc : came ≠ some j) (hg : go y.1 j = none) : tryF A go v came (j :: R) = tryF A go v came R := by
  rw [tryF, h]
  simp only
  rw [if_neg hc, hg]
theorem tryF_got {A : List NA} {go : Nat → Nat → Option (List (Nat × Bool))} {v : Nat} {came : Option Nat} {j : Nat} {R : List Nat} {y : Nat × Bool} {P : List (Nat × Bool)} (h : crossF A j v = some y) (hc : came ≠ some j) (hg : go y.1 j = some P) : tryF A go v came (j :: R) = some ((j, y.2) :: P) := by
  rw [tryF, h]
  simp only
  rw [if_neg hc, hg]
def cmI : Option Nat → Int
  | none => -1
  | some j => (j : Int)
theorem cmI_some {c : Option Nat} {j : Nat} : cmI c = (j : Int) ↔ c = some j := by
  cases c with
  | none => constructor
            · intro h; have : (-1 : Int) = (j : Int) := h; omega
            · intro h; cases h
  | some i => constructor
              · intro h; have : (i : Int) = (j : Int) := h; rw [show i = j by omega]
              · intro h; cases h; rfl
/-- All below B but one block stays. -/
structure KpB (B K : Nat) (w w' : World) : Prop where
  os : w'.os = w.os
  tape : w'.tape = w.tape
  output : w'.output = w.output
  size : w.heap.size ≤ w'.heap.size
  block : ∀ k, k < B → k ≠ K → w'.heap[k]? = w.heap[k]?
theorem KpB.refl (B K : Nat) (w : World) : KpB B K w w := ⟨rfl, rfl, rfl, Nat.le_refl _, fun _ _ _ => rfl⟩
theorem KpB.trans {B K : Nat} {a b c : World} (h : KpB B K a b) (k : KpB B K b c) : KpB B K a c := ⟨k.os.trans h.os, k.tape.trans h.tape, k.output.trans h.output, Nat.le_trans h.size k.size, fun i hi hn => (k.block i hi hn).trans (h.block i hi hn)⟩
theorem KpB.of_below {B K : Nat} {w w' : World} (h : Below B w w') : KpB B K w w' := ⟨h.os, h.tape, h.output, h.size, fun k hk _ => h.block k hk⟩
theorem KpB.of_but {B K : Nat} {w w' : World} (h : But K w w') (hB : B ≤ w.heap.size) : KpB B K w w' := ⟨h.os, h.tape, h.output, h.size, fun k hk hn => h.block k (Nat.lt_of_lt_of_le hk hB) hn⟩
theorem cellF_block {w w' : World} {b o : Nat} {v : Value} (h : w.cell? ⟨b, o, none⟩ = some v) (hk : w'.heap[b]? = w.heap[b]?) : w'.cell? ⟨b, o, none⟩ = some v := by
  unfold World.cell? at h ⊢
  rw [hk]
  exact h
/-- What reach leans on. -/
structure ReaF (B : Nat) (w : World) (ob tb nb pb rb : Nat) (A : List NA) (T : List Nat) (e : Nat) (aa ta : Option Addr) (ac tc : Nat) : Prop where
  oc : w.cell? ⟨ob, 0, none⟩ = some (.int .i64 (e : Int))
  tcl : w.cell? ⟨tb, 0, none⟩ = some (.slice ta T.length tc)
  nc : w.cell? ⟨nb, 1, none⟩ = some (.slice aa A.length ac)
  rc : w.cell? ⟨rb, 0, none⟩ = some (.func (.func 100) #[] #[.pointer (some ⟨ob, 0, none⟩), .pointer (some ⟨tb, 0, none⟩), .pointer (some ⟨nb, 0, none⟩), .pointer (some ⟨pb, 0, none⟩), .pointer (some ⟨rb, 0, none⟩)])
  tat : ∀ k, k < T.length → ∃ b off, ta = some ⟨b, off, none⟩ ∧ b < B ∧ b ≠ pb ∧ ∀ k, (h : k < T.length) → w.cell? ⟨b, off + k, none⟩ = some (.int .i64 (T[k] : Int))
  nat : ∀ k, k < A.length → ∃ b off, aa = some ⟨b, off, none⟩ ∧ b < B ∧ b ≠ pb ∧ ∀ k, k < A.length → w.cell? ⟨b, off + k * 5, none⟩ = some (.int .i64 (nthNa A k).f) ∧ w.cell? ⟨b, off + k * 5 + 1, none⟩ = some (.int .i64 (nthNa A k).t) ∧ w.cell? ⟨b, off + k * 5 + 2, none⟩ = some (.int .i64 (nthNa A k).g) ∧ w.cell? ⟨b, off + k * 5 + 3, none⟩ = some (.int .i64 (nthNa A k).k) ∧ w.cell? ⟨b, off + k * 5 + 4, none⟩ = some (.int .i64 (nthNa A k).s)
  lo : ob < B ∧ tb < B ∧ nb < B ∧ rb < B ∧ pb < B
  ne : ob ≠ pb ∧ tb ≠ pb ∧ nb ≠ pb ∧ rb ≠ pb
theorem ReaF.keep {B : Nat} {w w' : World} {ob tb nb pb rb : Nat} {A : List NA} {T : List Nat} {e : Nat} {aa ta : Option Addr} {ac tc : Nat} (h : ReaF B w ob tb nb pb rb A T e aa ta ac tc) (k : KpB B pb w w') : ReaF B w' ob tb nb pb rb A T e aa ta ac tc := by
  obtain ⟨l1, l2, l3, l4, l5⟩ := h.lo
  obtain ⟨n1, n2, n3, n4⟩ := h.ne
  refine ⟨cellF_block h.oc (k.block _ l1 n1), cellF_block h.tcl (k.block _ l2 n2), cellF_block h.nc (k.block _ l3 n3), cellF_block h.rc (k.block _ l4 n4), fun i hi => ?_, fun i hi => ?_, h.lo, h.ne⟩
  · obtain ⟨b, off, h1, h2, h3, h4⟩ := h.tat i hi
    exact ⟨b, off, h1, h2, h3, fun j hj => cellF_block (h4 j hj) (k.block _ h2 h3)⟩
  · obtain ⟨b, off, h1, h2, h3, h4⟩ := h.nat i hi
    have q := k.block _ h2 h3
    exact ⟨b, off, h1, h2, h3, fun j hj => ⟨cellF_block (h4 j hj).1 q, cellF_block (h4 j hj).2.1 q, cellF_block (h4 j hj).2.2.1 q, cellF_block (h4 j hj).2.2.2.1 q, cellF_block (h4 j hj).2.2.2.2 q⟩⟩
/-- The path so far. -/
structure PthF (B : Nat) (w : World) (pb : Nat) (P : List (Nat × Bool)) (d : Option Addr) (c : Nat) : Prop where
  blk : BlkA 36 pb w #[.slice d P.length c]
  row : CapS B w d c P
  size : B ≤ w.heap.size
  low : pb < B
theorem PthF.below {B : Nat} {w w' : World} {pb : Nat} {P : List (Nat × Bool)} {d : Option Addr} {c : Nat} (h : PthF B w pb P d c) (hb : Below w.heap.size w w') : PthF B w' pb P d c := ⟨h.blk.below hb, h.row.later hb, Nat.le_trans h.size hb.size, h.low⟩
theorem PthF.put {B : Nat} {w w' : World} {pb : Nat} {P R : List (Nat × Bool)} {d d' : Option Addr} {c c' : Nat} {m : Nat} (h : PthF B w pb P d c) (hb : Below B w w') (hr : CapS B w' d' c' R) (hm : R.length = m) : BlkA 36 pb w' #[.slice d P.length c] ∧ PthF B (w'.setCell ⟨pb, 0, none⟩ (.slice d' m c')) pb R d' c' ∧ KpB B pb w (w'.setCell ⟨pb, 0, none⟩ (.slice d' m c')) := by
  have l := h.low
  have s := h.size
  have hk : BlkA 36 pb w' #[.slice d P.length c] := h.blk.keep (hb.block pb l)
  have bt := But.set w' pb 0 (.slice d' m c')
  have s2 := hb.size
  refine ⟨hk, ⟨?_, ?_, Nat.le_trans (Nat.le_trans s s2) bt.size, l⟩, (KpB.of_below hb).trans (KpB.of_but bt (Nat.le_trans s s2))⟩
  · subst hm
    exact hk.set 0 (.slice d' R.length c')
  · exact hr.keep fun x hx => bt.block _ (hr.lt x hx).2 (by have := (hr.lt x hx).1; omega)
/-- How reach ends. -/
def ReaE (B : Nat) (w : World) (pb : Nat) (P : List (Nat × Bool)) (r : Option (List (Nat × Bool))) (e : Ending) (w' : World) : Prop := ∃ d' c', e = .returned (.bool r.isSome) ∧ PthF B w' pb (P ++ r.getD []) d' c' ∧ KpB B pb w w'
set_option maxRecDepth 100000 in
set_option maxHeartbeats 16000000 in
theorem reach_any {B ob tb nb pb rb : Nat} {A : List NA} {T : List Nat} {e : Nat} {aa ta : Option Addr} {ac tc : Nat} (hT : ∀ j, j ∈ T → j < A.length ∧ (nthNa A j).f = (fN A j : Int) ∧ (nthNa A j).t = (tN A j : Int)) (hTl : T.length ≤ 1000) :
    ∀ (k v : Nat) (came : Option Nat) (P : List (Nat × Bool)) (d : Option Addr) (c : Nat) (w : World), DeepF A T k v came → ReaF B w ob tb nb pb rb A T e aa ta ac tc → PthF B w pb P d c → P.length + k ≤ 1000 →
    Calls Tryz.prog 100 #[.int .i64 (v : Int), .int .i64 (cmI came), .pointer (some ⟨ob, 0, none⟩), .pointer (some ⟨tb, 0, none⟩), .pointer (some ⟨nb, 0, none⟩), .pointer (some ⟨pb, 0, none⟩), .pointer (some ⟨rb, 0, none⟩)] w (ReaE B w pb P (dfsF A T e k v came)) := by
  intro k
  induction k with
  | zero => intro v came P d c w hD; exact absurd hD.pos (Nat.lt_irrefl _)
  | succ k ih =>
    intro v came P d c w hD hR hP hl
    have IH := hiddenN ih
    have HD := hiddenN hD
    have HR := hiddenN hR
    have HP := hiddenN hP
    have HT := hiddenN hT
    have o0 := hR.oc
    have t0 := hR.tcl
    clear ih hD hR hP hT
    by_cases hv : v = e
    · have DE : Hid (dfsF A T e (k + 1) v came = some []) := by show _ = _; rw [dfsF, if_pos hv]
      rw [DE.out]
      subst hv
      go_enter Tryz.func100, Tryz.ntmps100
      go_wp2
      go_ret
      exact ⟨d, c, rfl, by rw [show (some ([] : List (Nat × Bool))).getD [] = [] from rfl, List.append_nil]; exact HP.out, KpB.refl _ _ _⟩
    · have DE : Hid (dfsF A T e (k + 1) v came = tryF A (fun x j => dfsF A T e k x (some j)) v came T) := by show _ = _; rw [dfsF, if_neg hv]
      rw [DE.out]
      clear DE
      have hvi : ¬ (v : Int) = (e : Int) := by omega
      obtain ⟨RE, hRE⟩ : ∃ R, ReaE B w pb P (tryF A (fun x j => dfsF A T e k x (some j)) v came T) = R := ⟨_, rfl⟩
      rw [hRE]
      have HRE := hiddenN hRE
      clear hRE
      obtain ⟨cm, hcm⟩ : ∃ q, cmI came = q := ⟨_, rfl⟩
      rw [hcm]
      have CM : Hid (∀ j : Nat, cm = (j : Int) ↔ came = some j) := fun j => by rw [← hcm]; exact cmI_some
      clear hcm
      go_enter Tryz.func100, Tryz.ntmps100
      go_upto_region 4 with fail
      have hbe : ((v : Int) == (e : Int)) = false := by simp; omega
      rw [hbe]
      clear hbe
      go_loopg [20] T.length (fun gk u wr => ∃ (q c' : Nat) (d' : Option Addr), q ≤ T.length ∧ gk = T.length - q ∧ u = .int .i64 (q : Int) ∧ tryF A (fun x j => dfsF A T e k x (some j)) v came (T.drop q) = tryF A (fun x j => dfsF A T e k x (some j)) v came T ∧ PthF B wr pb P d' c' ∧ KpB B pb w wr)
      case atStart => exact ⟨0, c, d, Nat.zero_le _, rfl, rfl, rfl, HP.out, KpB.refl _ _ _⟩
      case round =>
        clear HP o0 t0
        obtain ⟨q, c', d', hq, rfl, rfl, htr, hp, hk⟩ := hrel
        have PT := hiddenN hp
        have KP := hiddenN hk
        have RR := hiddenN (HR.out.keep hk)
        clear hp hk
        by_cases hlt : q < T.length
        · have hki : (q : Int) < (T.length : Int) := by omega
          rw [List.drop_eq_getElem_cons hlt] at htr
          have TR := hiddenN htr
          clear htr
          obtain ⟨tb1, to1, et, -, -, hct⟩ := RR.out.tat q hlt
          have c1 := hct q hlt
          obtain ⟨j, hj⟩ : ∃ j, T[q] = j := ⟨_, rfl⟩
          have hjT := List.getElem_mem hlt
          rw [hj] at c1 TR hjT
          obtain ⟨hjA, hjf, hjt⟩ := HT.out j hjT
          obtain ⟨nb1, no1, en, -, -, hcn⟩ := RR.out.nat j hjA
          obtain ⟨a0, a1, a2, a3, a4⟩ := hcn j hjA
          rw [hjf] at a0
          rw [hjt] at a1
          generalize (nthNa A j).g = ag at *
          generalize (nthNa A j).k = ak at *
          generalize (nthNa A j).s = az at *
          have n1 := RR.out.nc
          have r0 := RR.out.rc
          have AC := hiddenN (across_any A j v (.int .i64 ag) (.int .i64 ak) (.int .i64 az) wr)
          have hjI : (j : Int) < (A.length : Int) := by omega
          clear hct hcn hj hjf hjt
          subst et
          subst en
          cases hcr : crossF A j v with
          | none =>
            have CV : Hid (crossV A j v = .tuple #[.int .i64 0, .bool false, .bool false]) := by show _ = _; unfold crossV; rw [hcr]
            rw [CV.out] at AC
            rw [tryF_none hcr] at TR
            clear hcr CV IH HD
            go_wp2_with (go_at_call 101; (with_reducible refine AC.out.mono ?_); rintro e' W1 ⟨rfl, b1⟩; have P1 := hiddenN (PT.out.below b1); have K1 := hiddenN (KP.out.trans (KpB.of_below (b1.mono PT.out.size))); clear b1)
            go_roundg (T.length - (q + 1))
            case measure => omega
            case rel => exact ⟨q + 1, c', d', by omega, rfl, by go_num, TR.out, P1.out, K1.out⟩
          | some y =>
            obtain ⟨x, b⟩ := y
            have CV : Hid (crossV A j v = .tuple #[.int .i64 (x : Int), .bool b, .bool true]) := by show _ = _; unfold crossV; rw [hcr]
            rw [CV.out] at AC
            clear CV
            by_cases hc : came = some j
            · rw [tryF_came hcr hc] at TR
              have hcj := (CM.out j).2 hc
              subst hcj
              clear hcr hc IH HD
              go_wp2_with (go_at_call 101; (with_reducible refine AC.out.mono ?_); rintro e' W1 ⟨rfl, b1⟩; have P1 := hiddenN (PT.out.below b1); have K1 := hiddenN (KP.out.trans (KpB.of_below (b1.mono PT.out.size))); clear b1)
              go_roundg (T.length - (q + 1))
              case measure => omega
              case rel => exact ⟨q + 1, c', d', by omega, rfl, by go_num, TR.out, P1.out, K1.out⟩
            · have hcn : ¬ (j : Int) = cm := fun e => hc ((CM.out j).1 e.symm)
              have DN := hiddenN (HD.out.next hjT hcr hc)
              have GP : Hid (dfsF A T e k x (some j) = none → tryF A (fun x j => dfsF A T e k x (some j)) v came (T.drop (q + 1)) = tryF A (fun x j => dfsF A T e k x (some j)) v came T) := fun h => by rw [← TR.out, tryF_past hcr hc h]
              have GS : Hid (∀ Q, dfsF A T e k x (some j) = some Q → tryF A (fun x j => dfsF A T e k x (some j)) v came T = some ((j, b) :: Q)) := fun Q h => by rw [← TR.out, tryF_got hcr hc h]
              clear hcr hc TR HD CM
              go_upto_region 8 with (go_at_call 101; (with_reducible refine AC.out.mono ?_); rintro e' W1 ⟨rfl, b1⟩; have P1 := hiddenN (PT.out.below b1); have K1 := hiddenN (KP.out.trans (KpB.of_below (b1.mono PT.out.size))); clear b1)
              clear AC PT KP RR a0 a1 a2 a3 a4 n1 r0 c1
              have p0 := P1.out.blk.cell (k := 0) rfl
              simp only [List.getElem_toArray, List.getElem_cons_zero] at p0
              have bx := (Below.refl W1.heap.size W1).alloc (Nat.le_refl _) (.cells #[.int .i64 (j : Int), .bool b] 122)
              have PX := hiddenN (P1.out.below bx)
              have AX : Hid (AtS (W1.alloc (.cells #[.int .i64 (j : Int), .bool b] 122)) (some ⟨W1.heap.size, 0, none⟩) [(j, b)]) := .inr ⟨W1.heap.size, 0, rfl, fun k hk => by
                have e : k = 0 := by simp at hk; omega
                subst e
                exact ⟨(blkA_new 122 W1 #[.int .i64 (j : Int), .bool b]).cell (k := 0) rfl, (blkA_new 122 W1 #[.int .i64 (j : Int), .bool b]).cell (k := 1) rfl⟩⟩
              have KX := hiddenN (K1.out.trans (KpB.of_below (bx.mono P1.out.size)))
              have hsX : B ≤ (W1.alloc (.cells #[.int .i64 (j : Int), .bool b] 122)).heap.size := PX.out.size
              clear bx P1 K1
              go_upto_region 9 with (at_builtin; refine wpList_appS rfl _ _ rfl B d' c' P rfl PX.out.row (some ⟨W1.heap.size, 0, none⟩) 1 [(j, b)] rfl (fun e => by cases e) AX.out (by simp; omega) hsX (P.length + 1) (P ++ [(j, b)]) rfl rfl ?_; intro d3 c3 W2 hd3 b3; have PU := hiddenN (PX.out.put (m := P.length + 1) b3 hd3 (by simp)); have p2 := PU.out.1.cell (k := 0) rfl; have f2 := PU.out.1.frozen 0; simp only [List.getElem_toArray, List.getElem_cons_zero] at p2; clear hd3 b3 p0)
              have PU2 := hiddenN PU.out.2.1
              have K2 := hiddenN (KX.out.trans PU.out.2.2)
              clear PU PX KX AX p2 f2
              generalize W2.setCell ⟨pb, 0, none⟩ (.slice d3 (P.length + 1) c3) = W3 at *
              have R3 := hiddenN (HR.out.keep K2.out)
              have r0 := R3.out.rc
              have CL := hiddenN (IH.out x (some j) (P ++ [(j, b)]) d3 c3 W3 DN.out R3.out PU2.out (by simp; omega))
              unfold ReaE at CL
              rw [show cmI (some j) = (j : Int) from rfl] at CL
              clear IH DN R3
              cases hdf : dfsF A T e k x (some j) with
              | some Q =>
                rw [hdf] at CL
                have TG := hiddenN (GS.out Q hdf)
                clear hdf GS GP
                go_wp2_with (go_at_call 100; (with_reducible refine CL.out.mono ?_); rintro e' W4 ⟨d4, c4, rfl, q1, q2⟩; have P4 := hiddenN q1; have K4 := hiddenN (K2.out.trans q2); clear q1 q2 r0)
                rw [← HRE.out, TG.out]
                exact ⟨d4, c4, rfl, by have := P4.out; rw [List.append_assoc] at this; exact this, K4.out⟩
              | none =>
                rw [hdf] at CL
                have TG := hiddenN (GP.out hdf)
                clear hdf GS GP
                go_upto_region 11 with (go_at_call 100; (with_reducible refine CL.out.mono ?_); rintro e' W4 ⟨d4, c4, rfl, q1, q2⟩; have P4 := hiddenN q1; have K4 := hiddenN (K2.out.trans q2); clear q1 q2 r0)
                rw [show (none : Option (List (Nat × Bool))).getD [] = [] from rfl, List.append_nil] at P4
                clear CL PU2 K2
                have hd4 : ∃ g4, d4 = some ⟨g4, 0, none⟩ := by
                  rcases P4.out.row.2 with ⟨hv', hn'⟩ | ⟨g, cap, cur, hv', -⟩
                  · simp at hn'
                  · simp at hv'; exact ⟨g, hv'.1⟩
                obtain ⟨g4, rfl⟩ := hd4
                have hr4 := P4.out.row.room
                have p4 := P4.out.blk.cell (k := 0) rfl
                have f4 := P4.out.blk.frozen 0
                simp only [List.getElem_toArray, List.getElem_cons_zero, List.length_append, List.length_cons, List.length_nil] at p4 hr4
                have PP := hiddenN (P4.out.put (m := P.length) (R := P) (Below.refl _ _) P4.out.row.pop rfl)
                have PE := hiddenN PP.out.2.1
                have KE := hiddenN (K4.out.trans PP.out.2.2)
                clear PP P4 K4
                have hc4 : (P.length : Int) ≤ (c4 : Int) := by omega
                have hsub : IntKind.i64.wrap (((P.length + 1 : Nat) : Int) - 1) = (P.length : Int) := by
                  rw [wrapN]; unfold wrap64; omega
                go_wp2
                go_roundg (T.length - (q + 1))
                case measure => omega
                case rel => exact ⟨q + 1, c4, some ⟨g4, 0, none⟩, by omega, rfl, by go_num, TG.out, PE.out, KE.out⟩
        · have ek : q = T.length := by omega
          have hki : ¬ (q : Int) < (T.length : Int) := by omega
          rw [ek, List.drop_length] at htr
          have TG : Hid (tryF A (fun x j => dfsF A T e k x (some j)) v came T = none) := htr.symm
          clear ek htr IH HD HR RR
          go_wp2
          rw [← HRE.out, TG.out]
          exact ⟨d', c', rfl, by rw [show (none : Option (List (Nat × Bool))).getD [] = [] from rfl, List.append_nil]; exact PT.out, KP.out⟩
set_option maxRecDepth 100000 in
theorem isNodeF_any (m v : Int) (s : Value) (w : World) : Calls Tryz.prog 77 #[.agg #[.int .i64 m, s], .int .i64 v] w fun e w' => e = .returned (.bool (nodB m v)) ∧ Below w.heap.size w w' := by
  have ba := hiddenN ((Below.refl w.heap.size w).alloc (Nat.le_refl _) (.cells #[.int .i64 m, s] 30))
  have z0 := (blkA_new 30 w #[.int .i64 m, s]).cell (k := 0) rfl
  simp only [List.getElem_toArray, List.getElem_cons_zero] at z0
  unfold nodB
  by_cases h1 : 0 ≤ v
  · rw [decide_eq_true h1]
    by_cases h2 : v < m
    · rw [decide_eq_true h2]
      go_enter Tryz.func77, Tryz.ntmps77
      go_wp2
      go_ret
      exact ⟨rfl, ba.out⟩
    · rw [decide_eq_false h2]
      go_enter Tryz.func77, Tryz.ntmps77
      go_wp2
      go_ret
      exact ⟨rfl, ba.out⟩
  · rw [decide_eq_false h1]
    go_enter Tryz.func77, Tryz.ntmps77
    go_wp2
    go_ret
    exact ⟨rfl, ba.out⟩
/-- How walk ends. -/
def WalE (w : World) (P : List (Nat × Bool)) (e : Ending) (w' : World) : Prop := ∃ d c, e = .returned (.slice d P.length c) ∧ CapS w.heap.size w' d c P ∧ Below w.heap.size w w'
theorem intsF_at {w : World} {ta : Option Addr} {T : List Nat} (h : At w ta (intsF T)) : ∀ k, k < T.length → ∃ b off, ta = some ⟨b, off, none⟩ ∧ b < w.heap.size ∧ ∀ k, (h : k < T.length) → w.cell? ⟨b, off + k, none⟩ = some (.int .i64 (T[k] : Int)) := by
  intro k hk
  rcases h with e | ⟨b, off, e, hc⟩
  · have := intsF_len T
    rw [e] at this
    simp at this
    omega
  · have key : ∀ k, (h : k < T.length) → w.cell? ⟨b, off + k, none⟩ = some (.int .i64 (T[k] : Int)) := fun i hi => by
      have := hc i (by rw [intsF_len]; exact hi)
      rw [intsF_nth hi] at this
      exact this
    exact ⟨b, off, e, block_lt_of_cell (key k hk), key⟩
theorem arcs_at {w : World} {aa : Option Addr} {A : List NA} (h : AtN w aa A) : ∀ k, k < A.length → ∃ b off, aa = some ⟨b, off, none⟩ ∧ b < w.heap.size ∧ ∀ k, k < A.length → w.cell? ⟨b, off + k * 5, none⟩ = some (.int .i64 (nthNa A k).f) ∧ w.cell? ⟨b, off + k * 5 + 1, none⟩ = some (.int .i64 (nthNa A k).t) ∧ w.cell? ⟨b, off + k * 5 + 2, none⟩ = some (.int .i64 (nthNa A k).g) ∧ w.cell? ⟨b, off + k * 5 + 3, none⟩ = some (.int .i64 (nthNa A k).k) ∧ w.cell? ⟨b, off + k * 5 + 4, none⟩ = some (.int .i64 (nthNa A k).s) := by
  intro k hk
  rcases h with e | ⟨b, off, e, hc⟩
  · rw [e] at hk; exact absurd hk (Nat.not_lt_zero _)
  · exact ⟨b, off, e, block_lt_of_cell (hc k hk).1, hc⟩
theorem walk_start (w : World) (m : Int) (a ta : Option Addr) (c tc e : Nat) (A : List NA) (T : List Nat) (ha : ∀ k, k < A.length → ∃ b off, a = some ⟨b, off, none⟩ ∧ b < w.heap.size ∧ ∀ k, k < A.length → w.cell? ⟨b, off + k * 5, none⟩ = some (.int .i64 (nthNa A k).f) ∧ w.cell? ⟨b, off + k * 5 + 1, none⟩ = some (.int .i64 (nthNa A k).t) ∧ w.cell? ⟨b, off + k * 5 + 2, none⟩ = some (.int .i64 (nthNa A k).g) ∧ w.cell? ⟨b, off + k * 5 + 3, none⟩ = some (.int .i64 (nthNa A k).k) ∧ w.cell? ⟨b, off + k * 5 + 4, none⟩ = some (.int .i64 (nthNa A k).s))
    (ht : ∀ k, k < T.length → ∃ b off, ta = some ⟨b, off, none⟩ ∧ b < w.heap.size ∧ ∀ k, (h : k < T.length) → w.cell? ⟨b, off + k, none⟩ = some (.int .i64 (T[k] : Int))) :
    ReaF (w.heap.size + 5) (((((w.alloc (.cells #[.int .i64 m, .slice a A.length c] 30)).alloc (.cells #[.slice ta T.length tc] 27)).alloc (.cells #[.int .i64 (e : Int)] 3)).alloc (.cells #[.slice none 0 0] 36)).alloc (.cells #[(.func (.func 100) #[] #[.pointer (some ⟨w.heap.size + 1 + 1, 0, none⟩), .pointer (some ⟨w.heap.size + 1, 0, none⟩), .pointer (some ⟨w.heap.size, 0, none⟩), .pointer (some ⟨w.heap.size + 1 + 1 + 1, 0, none⟩), .pointer (some ⟨w.heap.size + 1 + 1 + 1 + 1, 0, none⟩)])] 107)) (w.heap.size + 1 + 1) (w.heap.size + 1) w.heap.size (w.heap.size + 1 + 1 + 1) (w.heap.size + 1 + 1 + 1 + 1) A T e a ta c tc ∧ PthF (w.heap.size + 5) (((((w.alloc (.cells #[.int .i64 m, .slice a A.length c] 30)).alloc (.cells #[.slice ta T.length tc] 27)).alloc (.cells #[.int .i64 (e : Int)] 3)).alloc (.cells #[.slice none 0 0] 36)).alloc (.cells #[(.func (.func 100) #[] #[.pointer (some ⟨w.heap.size + 1 + 1, 0, none⟩), .pointer (some ⟨w.heap.size + 1, 0, none⟩), .pointer (some ⟨w.heap.size, 0, none⟩), .pointer (some ⟨w.heap.size + 1 + 1 + 1, 0, none⟩), .pointer (some ⟨w.heap.size + 1 + 1 + 1 + 1, 0, none⟩)])] 107)) (w.heap.size + 1 + 1 + 1) [] none 0 ∧ Below w.heap.size w (((((w.alloc (.cells #[.int .i64 m, .slice a A.length c] 30)).alloc (.cells #[.slice ta T.length tc] 27)).alloc (.cells #[.int .i64 (e : Int)] 3)).alloc (.cells #[.slice none 0 0] 36)).alloc (.cells #[(.func (.func 100) #[] #[.pointer (some ⟨w.heap.size + 1 + 1, 0, none⟩), .pointer (some ⟨w.heap.size + 1, 0, none⟩), .pointer (some ⟨w.heap.size, 0, none⟩), .pointer (some ⟨w.heap.size + 1 + 1 + 1, 0, none⟩), .pointer (some ⟨w.heap.size + 1 + 1 + 1 + 1, 0, none⟩)])] 107)) := by
  have s1 : (w.alloc (.cells #[.int .i64 m, .slice a A.length c] 30)).heap.size = w.heap.size + 1 := World.size_alloc _ _
  have s2 : ((w.alloc (.cells #[.int .i64 m, .slice a A.length c] 30)).alloc (.cells #[.slice ta T.length tc] 27)).heap.size = w.heap.size + 1 + 1 := by rw [World.size_alloc, s1]
  have s3 : (((w.alloc (.cells #[.int .i64 m, .slice a A.length c] 30)).alloc (.cells #[.slice ta T.length tc] 27)).alloc (.cells #[.int .i64 (e : Int)] 3)).heap.size = w.heap.size + 1 + 1 + 1 := by rw [World.size_alloc, s2]
  have s4 : ((((w.alloc (.cells #[.int .i64 m, .slice a A.length c] 30)).alloc (.cells #[.slice ta T.length tc] 27)).alloc (.cells #[.int .i64 (e : Int)] 3)).alloc (.cells #[.slice none 0 0] 36)).heap.size = w.heap.size + 1 + 1 + 1 + 1 := by rw [World.size_alloc, s3]
  have x1 := blkA_new 30 w #[.int .i64 m, .slice a A.length c]
  have x2 := blkA_new 27 (w.alloc (.cells #[.int .i64 m, .slice a A.length c] 30)) #[.slice ta T.length tc]
  have x3 := blkA_new 3 ((w.alloc (.cells #[.int .i64 m, .slice a A.length c] 30)).alloc (.cells #[.slice ta T.length tc] 27)) #[.int .i64 (e : Int)]
  have x4 := blkA_new 36 (((w.alloc (.cells #[.int .i64 m, .slice a A.length c] 30)).alloc (.cells #[.slice ta T.length tc] 27)).alloc (.cells #[.int .i64 (e : Int)] 3)) #[.slice none 0 0]
  have x5 := blkA_new 107 ((((w.alloc (.cells #[.int .i64 m, .slice a A.length c] 30)).alloc (.cells #[.slice ta T.length tc] 27)).alloc (.cells #[.int .i64 (e : Int)] 3)).alloc (.cells #[.slice none 0 0] 36)) #[(.func (.func 100) #[] #[.pointer (some ⟨w.heap.size + 1 + 1, 0, none⟩), .pointer (some ⟨w.heap.size + 1, 0, none⟩), .pointer (some ⟨w.heap.size, 0, none⟩), .pointer (some ⟨w.heap.size + 1 + 1 + 1, 0, none⟩), .pointer (some ⟨w.heap.size + 1 + 1 + 1 + 1, 0, none⟩)])]
  rw [s1] at x2
  rw [s2] at x3
  rw [s3] at x4
  rw [s4] at x5
  have b1 := (Below.refl w.heap.size w).alloc (Nat.le_refl _) (.cells #[.int .i64 m, .slice a A.length c] 30)
  have b2 := (Below.refl (w.alloc (.cells #[.int .i64 m, .slice a A.length c] 30)).heap.size (w.alloc (.cells #[.int .i64 m, .slice a A.length c] 30))).alloc (Nat.le_refl _) (.cells #[.slice ta T.length tc] 27)
  have b3 := (Below.refl ((w.alloc (.cells #[.int .i64 m, .slice a A.length c] 30)).alloc (.cells #[.slice ta T.length tc] 27)).heap.size ((w.alloc (.cells #[.int .i64 m, .slice a A.length c] 30)).alloc (.cells #[.slice ta T.length tc] 27))).alloc (Nat.le_refl _) (.cells #[.int .i64 (e : Int)] 3)
  have b4 := (Below.refl (((w.alloc (.cells #[.int .i64 m, .slice a A.length c] 30)).alloc (.cells #[.slice ta T.length tc] 27)).alloc (.cells #[.int .i64 (e : Int)] 3)).heap.size (((w.alloc (.cells #[.int .i64 m, .slice a A.length c] 30)).alloc (.cells #[.slice ta T.length tc] 27)).alloc (.cells #[.int .i64 (e : Int)] 3))).alloc (Nat.le_refl _) (.cells #[.slice none 0 0] 36)
  have b5 := (Below.refl ((((w.alloc (.cells #[.int .i64 m, .slice a A.length c] 30)).alloc (.cells #[.slice ta T.length tc] 27)).alloc (.cells #[.int .i64 (e : Int)] 3)).alloc (.cells #[.slice none 0 0] 36)).heap.size ((((w.alloc (.cells #[.int .i64 m, .slice a A.length c] 30)).alloc (.cells #[.slice ta T.length tc] 27)).alloc (.cells #[.int .i64 (e : Int)] 3)).alloc (.cells #[.slice none 0 0] 36))).alloc (Nat.le_refl _) (.cells #[(.func (.func 100) #[] #[.pointer (some ⟨w.heap.size + 1 + 1, 0, none⟩), .pointer (some ⟨w.heap.size + 1, 0, none⟩), .pointer (some ⟨w.heap.size, 0, none⟩), .pointer (some ⟨w.heap.size + 1 + 1 + 1, 0, none⟩), .pointer (some ⟨w.heap.size + 1 + 1 + 1 + 1, 0, none⟩)])] 107)
  have s5 : (((((w.alloc (.cells #[.int .i64 m, .slice a A.length c] 30)).alloc (.cells #[.slice ta T.length tc] 27)).alloc (.cells #[.int .i64 (e : Int)] 3)).alloc (.cells #[.slice none 0 0] 36)).alloc (.cells #[(.func (.func 100) #[] #[.pointer (some ⟨w.heap.size + 1 + 1, 0, none⟩), .pointer (some ⟨w.heap.size + 1, 0, none⟩), .pointer (some ⟨w.heap.size, 0, none⟩), .pointer (some ⟨w.heap.size + 1 + 1 + 1, 0, none⟩), .pointer (some ⟨w.heap.size + 1 + 1 + 1 + 1, 0, none⟩)])] 107)).heap.size = w.heap.size + 5 := by rw [World.size_alloc, s4]
  have y1 := (((x1.below b2).below b3).below b4).below b5
  have y2 := ((x2.below b3).below b4).below b5
  have y3 := (x3.below b4).below b5
  have y4 := x4.below b5
  have bb : Below w.heap.size w (((((w.alloc (.cells #[.int .i64 m, .slice a A.length c] 30)).alloc (.cells #[.slice ta T.length tc] 27)).alloc (.cells #[.int .i64 (e : Int)] 3)).alloc (.cells #[.slice none 0 0] 36)).alloc (.cells #[(.func (.func 100) #[] #[.pointer (some ⟨w.heap.size + 1 + 1, 0, none⟩), .pointer (some ⟨w.heap.size + 1, 0, none⟩), .pointer (some ⟨w.heap.size, 0, none⟩), .pointer (some ⟨w.heap.size + 1 + 1 + 1, 0, none⟩), .pointer (some ⟨w.heap.size + 1 + 1 + 1 + 1, 0, none⟩)])] 107)) := (((b1.trans (b2.mono b1.size)).trans (b3.mono (by rw [s2]; omega))).trans (b4.mono (by rw [s3]; omega))).trans (b5.mono (by rw [s4]; omega))
  clear b1 b2 b3 b4 b5 s1 s2 s3 s4 x1 x2 x3 x4
  generalize (((((w.alloc (.cells #[.int .i64 m, .slice a A.length c] 30)).alloc (.cells #[.slice ta T.length tc] 27)).alloc (.cells #[.int .i64 (e : Int)] 3)).alloc (.cells #[.slice none 0 0] 36)).alloc (.cells #[(.func (.func 100) #[] #[.pointer (some ⟨w.heap.size + 1 + 1, 0, none⟩), .pointer (some ⟨w.heap.size + 1, 0, none⟩), .pointer (some ⟨w.heap.size, 0, none⟩), .pointer (some ⟨w.heap.size + 1 + 1 + 1, 0, none⟩), .pointer (some ⟨w.heap.size + 1 + 1 + 1 + 1, 0, none⟩)])] 107)) = W at *
  refine ⟨⟨y3.cell (k := 0) rfl, y2.cell (k := 0) rfl, y1.cell (k := 1) rfl, x5.cell (k := 0) rfl, fun k hk => ?_, fun k hk => ?_, by omega, by omega⟩, ⟨y4, CapS.nil _ _, by omega, by omega⟩, bb⟩
  · obtain ⟨b, off, h1, h2, h3⟩ := ht k hk
    exact ⟨b, off, h1, by omega, by omega, fun i hi => cellN_keep bb h2 (h3 i hi)⟩
  · obtain ⟨b, off, h1, h2, h3⟩ := ha k hk
    exact ⟨b, off, h1, by omega, by omega, fun i hi => ⟨cellN_keep bb h2 (h3 i hi).1, cellN_keep bb h2 (h3 i hi).2.1, cellN_keep bb h2 (h3 i hi).2.2.1, cellN_keep bb h2 (h3 i hi).2.2.2.1, cellN_keep bb h2 (h3 i hi).2.2.2.2⟩⟩
set_option maxRecDepth 100000 in
set_option maxHeartbeats 8000000 in
theorem walk_any {A : List NA} {T : List Nat} (hT : ∀ j, j ∈ T → j < A.length ∧ (nthNa A j).f = (fN A j : Int) ∧ (nthNa A j).t = (tN A j : Int)) (hTl : T.length ≤ 1000) (m : Int) (a ta : Option Addr) (c tc k s e : Nat) (w : World) (ha : AtN w a A) (ht : At w ta (intsF T)) (hD : DeepF A T k s none) (hk : k ≤ 1000) :
    Calls Tryz.prog 78 #[.agg #[.int .i64 m, .slice a A.length c], .slice ta T.length tc, .int .i64 (s : Int), .int .i64 (e : Int)] w (WalE w ((dfsF A T e k s none).getD [])) := by
  have hmf : ∀ (fn : Fn) (first cap : Array Value) (w : World), (Instr.makeFunc fn first cap).run Tryz.prog w = .ok (.func fn first cap) w := fun _ _ _ _ => rfl
  have hsf := fun (a : Addr) (fn : Fn) (c : Array Value) (w : World) => run_store Tryz.prog w a (.func fn #[] c) .plain rfl
  have HT := hiddenN hT
  have HD := hiddenN hD
  have ST := hiddenN (walk_start w m a ta c tc e A T (arcs_at ha) (intsF_at ht))
  clear hT hD ha ht
  obtain ⟨RE, hRE⟩ : ∃ R, WalE w ((dfsF A T e k s none).getD []) = R := ⟨_, rfl⟩
  rw [hRE]
  have HRE := hiddenN hRE
  clear hRE
  go_enter Tryz.func78, Tryz.ntmps78
  go_upto_region 4 with fail
  have RR := hiddenN ST.out.1
  have PP := hiddenN ST.out.2.1
  have BB := hiddenN ST.out.2.2
  clear ST
  generalize (((((w.alloc (.cells #[.int .i64 m, .slice a A.length c] 30)).alloc (.cells #[.slice ta T.length tc] 27)).alloc (.cells #[.int .i64 (e : Int)] 3)).alloc (.cells #[.slice none 0 0] 36)).alloc (.cells #[(.func (.func 100) #[] #[.pointer (some ⟨w.heap.size + 1 + 1, 0, none⟩), .pointer (some ⟨w.heap.size + 1, 0, none⟩), .pointer (some ⟨w.heap.size, 0, none⟩), .pointer (some ⟨w.heap.size + 1 + 1 + 1, 0, none⟩), .pointer (some ⟨w.heap.size + 1 + 1 + 1 + 1, 0, none⟩)])] 107)) = W at *
  have r0 := RR.out.rc
  have CL := hiddenN (reach_any HT.out hTl k s none [] none 0 W HD.out RR.out PP.out (by simp; omega))
  unfold ReaE at CL
  rw [show cmI none = (-1 : Int) from rfl, List.nil_append] at CL
  go_upto_region 5 with (go_at_call 100; (with_reducible refine CL.out.mono ?_); rintro e' W6 ⟨d, c', rfl, q1, q2⟩; have P6 := hiddenN q1; have K6 := hiddenN q2; clear q1 q2 r0)
  have p6 := P6.out.blk.cell (k := 0) rfl
  simp only [List.getElem_toArray, List.getElem_cons_zero] at p6
  clear CL RR PP HD HT
  generalize (dfsF A T e k s none).getD [] = P at *
  go_wp2
  rw [← HRE.out]
  exact ⟨d, c', rfl, P6.out.row.mono (by omega), ⟨K6.out.os.trans BB.out.os, K6.out.tape.trans BB.out.tape, K6.out.output.trans BB.out.output, Nat.le_trans BB.out.size K6.out.size, fun i hi => (K6.out.block i (by omega) (by omega)).trans (BB.out.block i hi)⟩⟩
/-- The path, or why there is none. -/
def pathD (A : List NA) (T : List Nat) (N s t : Nat) : List (Nat × Bool) × Int := match dfsF A T t (N + 1) s none with
  | some P => (P, 0)
  | none => ([], 110)
def pathP (n : NN) (s t : Int) : List (Nat × Bool) × Int :=
  if checkN n = 0 then (if nodB n.nodes s = true ∧ nodB n.nodes t = true then pathD n.arcs (treF n.arcs n.arcs.length) n.nodes.toNat s.toNat t.toNat else ([], 100)) else ([], checkN n)
/-- How Path ends. -/
def PatE (p : List (Nat × Bool) × Int) (w : World) (e : Ending) (w' : World) : Prop := ∃ d c, e = .returned (.tuple #[.slice d p.1.length c, .int .i64 p.2]) ∧ CapS w.heap.size w' d c p.1 ∧ Below w.heap.size w w'
theorem pat_none (w w' : World) (cd : Int) (hb : Below w.heap.size w w') : PatE ([], cd) w (.returned (.tuple #[.slice none 0 0, .int .i64 cd])) w' := ⟨none, 0, rfl, CapS.nil _ _, hb⟩
/-- The forest's arcs lie in the net. -/
theorem tree_arcs {n : NN} (h : SoundN n) : ∀ j, j ∈ treF n.arcs n.arcs.length → j < n.arcs.length ∧ (nthNa n.arcs j).f = (fN n.arcs j : Int) ∧ (nthNa n.arcs j).t = (tN n.arcs j : Int) := fun j hj => by
  have hl := treF_lt hj
  have hs := h.arcs j hl
  have h1 := hs.f
  have h2 := hs.t
  unfold fN tN
  exact ⟨hl, by omega, by omega⟩
theorem tree_lt {n : NN} (h : SoundN n) : ∀ j, j ∈ treF n.arcs n.arcs.length → fN n.arcs j < n.nodes.toNat ∧ tN n.arcs j < n.nodes.toNat := fun j hj => by
  have hs := h.arcs j (treF_lt hj)
  have h1 := hs.f
  have h2 := hs.t
  unfold fN tN
  omega
set_option maxRecDepth 100000 in
set_option maxHeartbeats 16000000 in
theorem path_any (n : NN) (a : Option Addr) (c : Nat) (s t : Int) (w : World) (h : AtN w a n.arcs) (hl : n.arcs.length ≤ 4611686018427387904) : Calls Tryz.prog 44 #[.agg #[.int .i64 n.nodes, .slice a n.arcs.length c], .int .i64 s, .int .i64 t] w (PatE (pathP n s t) w) := by
  have b0 := (Below.refl w.heap.size w).alloc (Nat.le_refl _) (.cells #[.int .i64 n.nodes, .slice a n.arcs.length c] 30)
  have X0 := hiddenN (blkA_new 30 w #[.int .i64 n.nodes, .slice a n.arcs.length c])
  have B0 := hiddenN b0
  have HA := hiddenN (h.below b0)
  have OF := hiddenN (ofF_any n a c _ (h.below b0) hl)
  have y0 := X0.out.cell (k := 0) rfl
  have y1 := X0.out.cell (k := 1) rfl
  simp only [List.getElem_toArray, List.getElem_cons_zero, List.getElem_cons_succ] at y0 y1
  clear b0 h
  unfold OfFE at OF
  by_cases hc : checkN n = 0
  · simp only [if_pos hc] at OF
    have hS := check_sound hc
    have TA := hiddenN (tree_arcs hS)
    have TL := hiddenN (tree_lt hS)
    have hTl : (treF n.arcs n.arcs.length).length ≤ 1000 := by have := treF_len (A := n.arcs) (k := n.arcs.length); have := hS.most; omega
    have hN := hS.nodes
    have PE : Hid (pathP n s t = if nodB n.nodes s = true ∧ nodB n.nodes t = true then pathD n.arcs (treF n.arcs n.arcs.length) n.nodes.toNat s.toNat t.toNat else ([], 100)) := by
      show _ = _
      unfold pathP
      rw [if_pos hc]
    rw [PE.out]
    clear PE hS hc
    obtain ⟨nn, A⟩ := n
    simp only at *
    obtain ⟨N, rfl⟩ : ∃ k : Nat, nn = (k : Int) := ⟨nn.toNat, by omega⟩
    simp only [Int.toNat_natCast] at *
    have IN : Hid (∀ v U, Calls Tryz.prog 77 #[.agg #[.int .i64 (N : Int), .slice a A.length c], .int .i64 v] U fun e w' => e = .returned (.bool (nodB (N : Int) v)) ∧ Below U.heap.size U w') := fun v U => isNodeF_any (N : Int) v _ U
    obtain ⟨T, hT⟩ : ∃ q, treF A A.length = q := ⟨_, rfl⟩
    obtain ⟨H, hH⟩ : ∃ q, homF A A.length = q := ⟨_, rfl⟩
    have DH : Hid (∀ p r : Nat, (dfsF A T r (N + 1) p none ≠ none) ↔ H p = H r) := fun p r => by rw [← hT, ← hH]; exact dfs_home (fun j hj => (TL.out j hj).1) (fun j hj => (TL.out j hj).2) p r
    have DP : Hid (∀ p, DeepF A T (N + 1) p none) := fun p => by rw [← hT]; exact deep_all (fun j hj => (TL.out j hj).1) (fun j hj => (TL.out j hj).2) p none
    rw [hT] at OF TA hTl ⊢
    rw [hH] at OF
    clear hT hH TL
    obtain ⟨RE, hRE⟩ : ∃ R, PatE (if nodB (N : Int) s = true ∧ nodB (N : Int) t = true then pathD A T N s.toNat t.toNat else ([], 100)) w = R := ⟨_, rfl⟩
    rw [hRE]
    have HRE := hiddenN hRE
    clear hRE
    go_enter Tryz.func44, Tryz.ntmps44
    go_upto_region 1 with fail
    generalize w.alloc (.cells #[.int .i64 (N : Int), .slice a A.length c] 30) = W0 at *
    go_upto_region 2 with (go_at_call 18; (with_reducible refine OF.out.mono ?_); rintro e W1 ⟨d1, c1, d2, c2, rfl, q1, q2, -, b1⟩; have T1 := hiddenN q1; have H1 := hiddenN q2; have L1 := hiddenN (B0.out.trans (b1.mono B0.out.size)); have X1 := hiddenN (X0.out.below b1); have A1 := hiddenN (HA.out.below b1); clear q1 q2 b1 y0 y1)
    have b2 := (Below.refl W1.heap.size W1).alloc (Nat.le_refl _) (.cells #[.slice d1 (intsF T).length c1, .slice d2 (rowF N H).length c2] 69)
    have F2 := hiddenN (blkA_new 69 W1 #[.slice d1 (intsF T).length c1, .slice d2 (rowF N H).length c2])
    have L2 := hiddenN (L1.out.trans (b2.mono L1.out.size))
    have X2 := hiddenN (X1.out.below b2)
    have A2 := hiddenN (A1.out.below b2)
    have T2 := hiddenN (T1.out.at.below b2)
    have H2 := hiddenN (H1.out.at.below b2)
    obtain ⟨fb, hfb⟩ : ∃ q, W1.heap.size = q := ⟨_, rfl⟩
    rw [hfb] at F2 ⊢
    rw [intsF_len, rowF_len] at F2 ⊢
    rw [intsF_len, rowF_len] at L2 X2 A2 T2 H2
    generalize W1.alloc (.cells #[.slice d1 T.length c1, .slice d2 N c2] 69) = W2 at *
    clear b2 T1 H1 L1 X1 A1 hfb OF X0 HA B0
    have y0 := X2.out.cell (k := 0) rfl
    have y1 := X2.out.cell (k := 1) rfl
    simp only [List.getElem_toArray, List.getElem_cons_zero, List.getElem_cons_succ] at y0 y1
    obtain ⟨b1, hb1⟩ : ∃ q, nodB (N : Int) s = q := ⟨_, rfl⟩
    obtain ⟨b2, hb2⟩ : ∃ q, nodB (N : Int) t = q := ⟨_, rfl⟩
    have I1 : Hid (∀ U, Calls Tryz.prog 77 #[.agg #[.int .i64 (N : Int), .slice a A.length c], .int .i64 s] U fun e w' => e = .returned (.bool b1) ∧ Below U.heap.size U w') := fun U => by rw [← hb1]; exact IN.out s U
    have I2 : Hid (∀ U, Calls Tryz.prog 77 #[.agg #[.int .i64 (N : Int), .slice a A.length c], .int .i64 t] U fun e w' => e = .returned (.bool b2) ∧ Below U.heap.size U w') := fun U => by rw [← hb2]; exact IN.out t U
    rw [hb1, hb2] at HRE
    clear IN
    cases b1 with
    | false =>
      clear hb1 hb2 I2 DH DP TA
      rw [if_neg (by simp)] at HRE
      go_wp2_with (go_at_call 77; (with_reducible refine (I1.out _).mono ?_); rintro e W3 ⟨rfl, b3⟩; have L3 := hiddenN (L2.out.trans (b3.mono L2.out.size)); clear b3)
      rw [← HRE.out]
      exact pat_none _ _ _ L3.out
    | true =>
      cases b2 with
      | false =>
        clear hb1 hb2 DH DP TA
        rw [if_neg (by simp)] at HRE
        go_wp2_with (first
          | (go_at_call 77; (with_reducible refine (I2.out _).mono ?_); rintro e W4 ⟨rfl, b4⟩; have L4 := hiddenN (L3.out.trans (b4.mono L3.out.size)); clear b4)
          | (go_at_call 77; (with_reducible refine (I1.out _).mono ?_); rintro e W3 ⟨rfl, b3⟩; have L3 := hiddenN (L2.out.trans (b3.mono L2.out.size)); have X3 := hiddenN (X2.out.below b3); have z0 := X3.out.cell (k := 0) rfl; have z1 := X3.out.cell (k := 1) rfl; simp only [List.getElem_toArray, List.getElem_cons_zero, List.getElem_cons_succ] at z0 z1; clear b3 y0 y1))
        rw [← HRE.out]
        exact pat_none _ _ _ L4.out
      | true =>
        rw [if_pos ⟨rfl, rfl⟩] at HRE
        unfold nodB at hb1 hb2
        simp only [Bool.and_eq_true, decide_eq_true_eq] at hb1 hb2
        obtain ⟨p, rfl⟩ : ∃ k : Nat, s = (k : Int) := ⟨s.toNat, by omega⟩
        obtain ⟨r, rfl⟩ : ∃ k : Nat, t = (k : Int) := ⟨t.toNat, by omega⟩
        simp only [Int.toNat_natCast] at HRE
        have hp : p < N := by omega
        have hr : r < N := by omega
        have hpI : (p : Int) < (N : Int) := by omega
        have hrI : (r : Int) < (N : Int) := by omega
        clear hb1 hb2
        have PN : Hid (H p ≠ H r → pathD A T N p r = ([], 110)) := fun hne => by
          unfold pathD
          cases q : dfsF A T r (N + 1) p none with
          | none => rfl
          | some P => exact absurd ((DH.out p r).1 (by rw [q]; exact fun x => by cases x)) hne
        have PY : Hid (H p = H r → pathD A T N p r = ((dfsF A T r (N + 1) p none).getD [], 0)) := fun he => by
          unfold pathD
          cases q : dfsF A T r (N + 1) p none with
          | none => exact absurd q ((DH.out p r).2 he)
          | some P => rfl
        go_upto_region 6 with (first
          | (go_at_call 77; (with_reducible refine (I2.out _).mono ?_); rintro e W4 ⟨rfl, b4⟩; have L4 := hiddenN (L3.out.trans (b4.mono L3.out.size)); have K4 := hiddenN (K3.out.trans (b4.mono K3.out.size)); clear b4)
          | (go_at_call 77; (with_reducible refine (I1.out _).mono ?_); rintro e W3 ⟨rfl, b3⟩; have L3 := hiddenN (L2.out.trans (b3.mono L2.out.size)); have K3 := hiddenN b3; have X3 := hiddenN (X2.out.below b3); have z0 := X3.out.cell (k := 0) rfl; have z1 := X3.out.cell (k := 1) rfl; simp only [List.getElem_toArray, List.getElem_cons_zero, List.getElem_cons_succ] at z0 z1; clear b3 y0 y1))
        have F4 := hiddenN (F2.out.below K4.out)
        have X4 := hiddenN (X2.out.below K4.out)
        have A4 := hiddenN (A2.out.below K4.out)
        have T4 := hiddenN (T2.out.below K4.out)
        have H4 := hiddenN (H2.out.below K4.out)
        clear F2 X2 A2 T2 H2 K4 K3 X3 z0 z1 L2 L3 I1 I2
        have f1 := F4.out.cell (k := 1) rfl
        simp only [List.getElem_toArray, List.getElem_cons_zero, List.getElem_cons_succ] at f1
        rcases H4.out with e | ⟨g, off, eg, hcg⟩
        · have := rowF_len N H
          rw [e] at this
          simp at this
          omega
        have hp1 := hcg p (by rw [rowF_len]; exact hp)
        have hr1 := hcg r (by rw [rowF_len]; exact hr)
        rw [rowF_nth hp] at hp1
        rw [rowF_nth hr] at hr1
        subst eg
        clear hcg H4
        generalize H p = x at *
        generalize H r = y at *
        by_cases hxy : x = y
        · have PA := hiddenN (PY.out hxy)
          subst hxy
          clear PN PY
          go_quiet (fail)
          have K5 := drewF W4 nq
          have L5 := hiddenN (L4.out.trans (K5.mono L4.out.size))
          have F5 := hiddenN (F4.out.below K5)
          have X5 := hiddenN (X4.out.below K5)
          have A5 := hiddenN (A4.out.below K5)
          have T5 := hiddenN (T4.out.below K5)
          clear K5 L4 F4 X4 A4 T4 f1 hp1 hr1
          generalize W4.drewN nq = W5 at *
          have f0 := F5.out.cell (k := 0) rfl
          have z0 := X5.out.cell (k := 0) rfl
          have z1 := X5.out.cell (k := 1) rfl
          simp only [List.getElem_toArray, List.getElem_cons_zero, List.getElem_cons_succ] at f0 z0 z1
          have WK := hiddenN (walk_any TA.out hTl (N : Int) a d1 c c1 (N + 1) p r W5 A5.out T5.out (DP.out p) (by omega))
          go_wp2_with (go_at_call 78; (with_reducible refine WK.out.mono ?_); rintro e W6 ⟨d6, c6, rfl, q1, q2⟩; have C6 := hiddenN q1; have L6 := hiddenN (L5.out.trans (q2.mono L5.out.size)); clear q1 q2)
          rw [← HRE.out, PA.out]
          exact ⟨d6, c6, rfl, C6.out.mono L5.out.size, L6.out⟩
        · have PA := hiddenN (PN.out hxy)
          clear PN PY
          have hxi : ¬ (x : Int) = (y : Int) := by omega
          go_quiet (fail)
          have L5 := hiddenN (L4.out.trans ((drewF W4 nq).mono L4.out.size))
          clear f1 hp1 hr1 F4 X4 A4 T4 L4
          generalize W4.drewN nq = W5 at *
          go_wp2
          rw [← HRE.out, PA.out]
          exact pat_none _ _ _ L5.out
  · have PE : Hid (pathP n s t = ([], checkN n)) := by show _ = _; unfold pathP; rw [if_neg hc]
    rw [PE.out]
    simp only [if_neg hc] at OF
    have hcb : (checkN n != 0) = true := by simpa using hc
    clear hc PE HA
    generalize checkN n = cd at *
    generalize n.arcs.length = al at *
    generalize n.nodes = m at *
    obtain ⟨RE, hRE⟩ : ∃ R, PatE ([], cd) w = R := ⟨_, rfl⟩
    rw [hRE]
    have HRE := hiddenN hRE
    clear hRE
    go_enter Tryz.func44, Tryz.ntmps44
    go_upto_region 1 with fail
    generalize w.alloc (.cells #[.int .i64 m, .slice a al c] 30) = W0 at *
    go_wp2_with (go_at_call 18; (with_reducible refine OF.out.mono ?_); rintro e W1 ⟨rfl, b1⟩; have L1 := hiddenN (B0.out.trans (b1.mono B0.out.size)); clear b1)
    rw [← HRE.out]
    exact pat_none _ _ _ (L1.out.alloc L1.out.size _)
/-- A new box: as it was made, then as it was filled. -/
def BoxF (B : Nat) (T : TypeId) (z0 vals : Array Value) (done : Bool) (u : World) (z : Value) : Prop := ∃ xb, z = .pointer (some ⟨xb, 0, none⟩) ∧ B ≤ xb ∧ BlkA T xb u (if done then vals else z0)
theorem BoxF.later {B : Nat} {T : TypeId} {z0 vals : Array Value} {done : Bool} {u u' : World} {z : Value} (h : BoxF B T z0 vals done u z) (hb : Below u.heap.size u u') : BoxF B T z0 vals done u' z := by
  obtain ⟨xb, h1, h2, h3⟩ := h
  exact ⟨xb, h1, h2, h3.below hb⟩
def SeV (B : Nat) (r : Option (List (Nat × Bool))) (u : World) (z : Value) : Prop := ∃ d c, z = .tuple #[.slice d (r.getD []).length c, .bool r.isSome] ∧ CapS B u d c (r.getD [])
def SlS (B : Nat) (P : List (Nat × Bool)) (u : World) (z : Value) : Prop := ∃ d c, z = .slice d P.length c ∧ CapS B u d c P
def ElS (j : Nat) (b : Bool) (u : World) (z : Value) : Prop := ∃ g, z = .slice (some ⟨g, 0, none⟩) 1 1 ∧ u.cell? ⟨g, 0, none⟩ = some (.int .i64 (j : Int)) ∧ u.cell? ⟨g, 1, none⟩ = some (.bool b)
theorem SeV.later {B : Nat} {r : Option (List (Nat × Bool))} {u u' : World} {z : Value} (h : SeV B r u z) (hb : Below u.heap.size u u') : SeV B r u' z := by
  obtain ⟨d, c, h1, h2⟩ := h
  exact ⟨d, c, h1, h2.later hb⟩
theorem SlS.later {B : Nat} {P : List (Nat × Bool)} {u u' : World} {z : Value} (h : SlS B P u z) (hb : Below u.heap.size u u') : SlS B P u' z := by
  obtain ⟨d, c, h1, h2⟩ := h
  exact ⟨d, c, h1, h2.later hb⟩
theorem ElS.later {j : Nat} {b : Bool} {u u' : World} {z : Value} (h : ElS j b u z) (hb : Below u.heap.size u u') : ElS j b u' z := by
  obtain ⟨g, h1, h2, h3⟩ := h
  exact ⟨g, h1, cellN_later hb h2, cellN_later hb h3⟩
theorem pathP_len (n : NN) (s t : Int) : (pathP n s t).1.length ≤ 33 := by
  unfold pathP
  split
  · rename_i hc
    have hS := check_sound hc
    split
    · unfold pathD
      split
      · rename_i P hP
        have h := dfsF_sound hP
        have := deep_all (fun j hj => (tree_lt hS j hj).1) (fun j hj => (tree_lt hS j hj).2) s.toNat none P t.toNat h.1 h.2
        have := hS.nodes
        show P.length ≤ 33
        omega
      · exact Nat.zero_le _
    · exact Nat.zero_le _
  · exact Nat.zero_le _
def FoV (T H : List Int) (cd : Int) (u : World) (z : Value) : Prop := ∃ d1 c1 d2 c2, z = .tuple #[.agg #[.slice d1 T.length c1, .slice d2 H.length c2], .int .i64 cd] ∧ CapR 0 u d1 c1 T
def FaV (T H : List Int) (u : World) (z : Value) : Prop := ∃ d1 c1 d2 c2, z = .agg #[.slice d1 T.length c1, .slice d2 H.length c2] ∧ CapR 0 u d1 c1 T
def FbB (T H : List Int) (fb : Nat) (done : Bool) (u : World) : Prop := match done with
  | true => ∃ d1 c1 d2 c2, BlkA 69 fb u #[.slice d1 T.length c1, .slice d2 H.length c2] ∧ CapR 0 u d1 c1 T
  | false => BlkA 69 fb u #[.slice none 0 0, .slice none 0 0]
def FbV (B : Nat) (T H : List Int) (done : Bool) (u : World) (z : Value) : Prop := ∃ fb, z = .pointer (some ⟨fb, 0, none⟩) ∧ B ≤ fb ∧ FbB T H fb done u
theorem FoV.later {T H : List Int} {cd : Int} {u u' : World} {z : Value} (h : FoV T H cd u z) (hb : Below u.heap.size u u') : FoV T H cd u' z := by
  obtain ⟨d1, c1, d2, c2, h1, h2⟩ := h
  exact ⟨d1, c1, d2, c2, h1, h2.later hb⟩
theorem FaV.later {T H : List Int} {u u' : World} {z : Value} (h : FaV T H u z) (hb : Below u.heap.size u u') : FaV T H u' z := by
  obtain ⟨d1, c1, d2, c2, h1, h2⟩ := h
  exact ⟨d1, c1, d2, c2, h1, h2.later hb⟩
theorem FbV.later {B : Nat} {T H : List Int} {done : Bool} {u u' : World} {z : Value} (h : FbV B T H done u z) (hb : Below u.heap.size u u') : FbV B T H done u' z := by
  obtain ⟨fb, h1, h2, h3⟩ := h
  refine ⟨fb, h1, h2, ?_⟩
  cases done with
  | false => exact BlkA.below (show BlkA 69 fb u #[.slice none 0 0, .slice none 0 0] from h3) hb
  | true =>
    obtain ⟨d1, c1, d2, c2, q1, q2⟩ := h3
    exact ⟨d1, c1, d2, c2, q1.below hb, q2.later hb⟩
theorem AtN.take {w : World} {a : Option Addr} {A : List NA} (h : AtN w a A) (k : Nat) : AtN w a (A.take k) := by
  rcases h with e | ⟨b, off, e, hc⟩
  · subst e; exact .inl (by simp)
  · refine .inr ⟨b, off, e, fun i hi => ?_⟩
    rw [List.length_take] at hi
    rw [nthNa_take (by omega)]
    exact hc i (by omega)
end Go.Proofs.YtmnbapcbailcbaaGreat

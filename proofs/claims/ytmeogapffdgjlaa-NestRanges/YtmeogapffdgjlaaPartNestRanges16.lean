/- Texts of one chain, laid one behind the other. -/
import Derived.Test.YtmeogapffdgjlaaPartNestRanges11
import Derived.Test.YtmeogapffdgjlaaPartNestRanges4
import Derived.WalkSmall
namespace Go.Proofs.Ytmeogapffdgjlaa
open Go.ChangeShapes Go.WideShapes Go.ChangeAt Go.RowKit
theorem Try.infoRun : (Try.prog.info? 65).map (fun i => (i.zero, i.size, i.bytes)) = some (some (.agg #[.int .i64 0, .int .i64 0]), 2, 16) := by kernel_rfl
def rnV (x : Int × Int) : List Value := [.int .i64 x.1, .int .i64 x.2]
def flatY : List (Int × Int) → List Value
  | [] => []
  | x :: L => rnV x ++ flatY L
def nthY (L : List (Int × Int)) (k : Nat) : Int × Int := L.getD k (0, 0)
def celY (x : Int × Int) (j : Nat) : Value := if j = 0 then .int .i64 x.1 else .int .i64 x.2
theorem flatY_len : ∀ (L : List (Int × Int)), (flatY L).length = L.length * 2
  | [] => rfl
  | x :: L => by show (rnV x ++ flatY L).length = _; rw [List.length_append, flatY_len L, List.length_cons]; show 2 + _ = _; omega
theorem flatY_append : ∀ (L M : List (Int × Int)), flatY (L ++ M) = flatY L ++ flatY M
  | [], _ => rfl
  | x :: L, M => by show rnV x ++ flatY (L ++ M) = rnV x ++ flatY L ++ flatY M; rw [flatY_append L M, List.append_assoc]
theorem flatY_get : ∀ {L : List (Int × Int)} {k j : Nat}, k < L.length → j < 2 → (flatY L)[k * 2 + j]? = some (celY (nthY L k) j)
  | [], k, j, hk, _ => absurd hk (Nat.not_lt_zero _)
  | a :: L, 0, j, _, hj => by
    show (rnV a ++ flatY L)[0 * 2 + j]? = _
    rw [Nat.zero_mul, Nat.zero_add, List.getElem?_append_left (by show j < 2; exact hj)]
    match j, hj with
    | 0, _ => rfl
    | 1, _ => rfl
  | a :: L, k + 1, j, hk, hj => by
    show (rnV a ++ flatY L)[(k + 1) * 2 + j]? = _
    rw [List.getElem?_append_right (by show 2 ≤ _; omega)]
    have e : (k + 1) * 2 + j - (rnV a).length = k * 2 + j := by show (k + 1) * 2 + j - 2 = _; omega
    rw [e]
    exact flatY_get (Nat.lt_of_succ_lt_succ hk) hj
/-- Steps as they lie. -/
def AtY (w : World) (a : Option Addr) (L : List (Int × Int)) : Prop := L = [] ∨ ∃ b off, a = some ⟨b, off, none⟩ ∧ ∀ k, k < L.length → w.cell? ⟨b, off + k * 2, none⟩ = some (.int .i64 (nthY L k).1) ∧ w.cell? ⟨b, off + k * 2 + 1, none⟩ = some (.int .i64 (nthY L k).2)
theorem AtY.below {w w' : World} {a : Option Addr} {L : List (Int × Int)} (h : AtY w a L) (hb : Below w.heap.size w w') : AtY w' a L := by
  rcases h with h | ⟨b, off, e, hc⟩
  · exact .inl h
  · exact .inr ⟨b, off, e, fun k hk => ⟨cellN_later hb (hc k hk).1, cellN_later hb (hc k hk).2⟩⟩
theorem AtY.flat {w : World} {ad : Addr} {L : List (Int × Int)} (h : AtY w (some ad) L) : ∀ j u, (flatY L)[j]? = some u → w.cell? (ad.add j) = some u := by
  intro j u hu
  have hj : j < L.length * 2 := by rw [← flatY_len]; exact (List.getElem?_eq_some_iff.1 hu).1
  rcases h with e | ⟨b, off, e, hc⟩
  · subst e; simp at hj
  · cases e
    have hk : j / 2 < L.length := by omega
    have e1 : j = j / 2 * 2 + j % 2 := by omega
    have hr : j % 2 < 2 := Nat.mod_lt _ (by decide)
    have h1 := flatY_get (L := L) hk hr
    rw [← e1, hu] at h1
    cases h1
    obtain ⟨c0, c1⟩ := hc (j / 2) hk
    have ea : (⟨b, off, none⟩ : Addr).add j = ⟨b, off + j / 2 * 2 + j % 2, none⟩ := by
      have e2 : off + j / 2 * 2 + j % 2 = off + j := by omega
      rw [e2]
      simp [Addr.add]
    rw [ea]
    clear ea e1
    generalize j / 2 = k at *
    generalize j % 2 = r at *
    match r, hr with
    | 0, _ => exact c0
    | 1, _ => exact c1
/-- A row of steps of a call's own, with room behind it. -/
def CapY (B : Nat) (w : World) (a : Option Addr) (c : Nat) (L : List (Int × Int)) : Prop := w.ownsRow B 65 2 (.slice a L.length c) L.length (flatY L)
theorem CapY.nil (B : Nat) (w : World) : CapY B w none 0 [] := World.ownsRow_nil _ _ _ _
theorem CapY.at {B : Nat} {w : World} {a : Option Addr} {c : Nat} {L : List (Int × Int)} (h : CapY B w a c L) : AtY w a L := by
  unfold CapY at h
  rcases h.2 with ⟨hv, hn⟩ | ⟨g, cap, cur, hv, hg, hh, hc, hm, hs, ht⟩
  · exact .inl (List.eq_nil_of_length_eq_zero hn)
  · cases hv
    refine .inr ⟨g, 0, rfl, fun k hk => ?_⟩
    have key : ∀ j, j < 2 → w.cell? ⟨g, k * 2 + j, none⟩ = some (celY (nthY L k) j) := fun j hj => by
      rw [h.cellAt (k * 2 + j) (by omega), flatY_get hk hj]
    rw [Nat.zero_add]
    exact ⟨key 0 (by decide), key 1 (by decide)⟩
theorem CapY.lt {B : Nat} {w : World} {a : Option Addr} {c : Nat} {L : List (Int × Int)} (h : CapY B w a c L) : ∀ x, a = some x → B ≤ x.block ∧ x.block < w.heap.size := by
  intro x hx
  rcases h.2 with ⟨hv, hn⟩ | ⟨g, cap, cur, hv, hg, hh, hc, hm, hs, ht⟩
  · simp at hv; rw [hv.1] at hx; cases hx
  · cases hv
    cases hx
    exact ⟨hg, (Array.getElem?_eq_some_iff.1 hh).1⟩
theorem CapY.none {B : Nat} {w : World} {a : Option Addr} {c : Nat} {L : List (Int × Int)} (h : CapY B w a c L) : a = Option.none → L.length = 0 ∧ c = 0 := by
  intro e
  rcases h.2 with ⟨hv, hn⟩ | ⟨g, cap, cur, hv, hg, hh, hc, hm, hs, ht⟩
  · simp at hv; exact ⟨hn, hv.2.2⟩
  · subst e; cases hv
theorem CapY.keep {B : Nat} {w w' : World} {a : Option Addr} {c : Nat} {L : List (Int × Int)} (h : CapY B w a c L) (hk : ∀ x, a = some x → w'.heap[x.block]? = w.heap[x.block]?) : CapY B w' a c L := by
  refine ⟨h.1, ?_⟩
  rcases h.2 with h2 | ⟨g, cap, cur, hv, hg, hh, r⟩
  · exact .inl h2
  · refine .inr ⟨g, cap, cur, hv, hg, ?_, r⟩
    cases hv
    rw [hk _ rfl]; exact hh
theorem CapY.later {B : Nat} {w w' : World} {a : Option Addr} {c : Nat} {L : List (Int × Int)} (h : CapY B w a c L) (hb : Below w.heap.size w w') : CapY B w' a c L := h.keep fun x hx => hb.block _ (h.lt x hx).2
theorem CapY.mono {B B' : Nat} {w : World} {a : Option Addr} {c : Nat} {L : List (Int × Int)} (h : CapY B w a c L) (hB : B' ≤ B) : CapY B' w a c L := by
  refine ⟨h.1, ?_⟩
  rcases h.2 with h2 | ⟨g, cap, cur, hv, hg, r⟩
  · exact .inl h2
  · exact .inr ⟨g, cap, cur, hv, Nat.le_trans hB hg, r⟩
/-- A row of runs has grown; all else stays. -/
structure GrwY (B : Nat) (V : World) (d0 : Option Addr) (L : List (Int × Int)) (u : World) (d : Option Addr) (c : Nat) : Prop where
  own : CapY B u d c L
  keep : ∀ k, k < V.heap.size → (∀ y, d0 = some y → y.block ≠ k) → u.heap[k]? = V.heap[k]?
  new : ∀ z, d = some z → d0 = some z ∨ V.heap.size ≤ z.block
  size : V.heap.size ≤ u.heap.size
  os : u.os = V.os
  tape : u.tape = V.tape
  output : u.output = V.output
theorem GrwY.below {B Q : Nat} {V u : World} {d0 : Option Addr} {L : List (Int × Int)} {d : Option Addr} {c : Nat} (h : GrwY B V d0 L u d c) (hQ : Q ≤ V.heap.size) (h0 : ∀ y, d0 = some y → Q ≤ y.block) : Below Q V u :=
  ⟨h.os, h.tape, h.output, h.size, fun k hk => h.keep k (by omega) (fun y hy => by have := h0 y hy; omega)⟩
theorem wpList_appY {w : World} {ops : Array Oper} {rest : List Oper} {o : Oper} {a : Act} {Q : Exit → Act → World → Prop} (hgd : o.guard = none) (s x : Operand) (ho : o.op = .call { callee := .builtin .append, args := #[s, x], argTypes := #[50, 50] })
    (B : Nat) (d0 : Option Addr) (c0 : Nat) (zs : List (Int × Int)) (hs : a.eval s = .slice d0 zs.length c0) (hown : CapY B w d0 c0 zs) (g : Nat) (i : Int × Int) (hx : a.eval x = .slice (some ⟨g, 0, none⟩) 1 1) (hc : w.cell? ⟨g, 0, none⟩ = some (.int .i64 i.1)) (hc2 : w.cell? ⟨g, 1, none⟩ = some (.int .i64 i.2)) (hn : zs.length ≤ 10000000) (hB : B ≤ w.heap.size)
    (h : ∀ d c' w', GrwY B w d0 (zs ++ [i]) w' d c' → wpList Try.prog ops Q rest (a.put o.dst (.slice d (zs.length + 1) c')) w') : wpList Try.prog ops Q (o :: rest) a w := by
  obtain ⟨i1, hi1, hy0, hy1, hy2⟩ := info_parts Try.infoRun
  refine wpList_append_told (P := Try.prog) w hgd s x 50 ho B 65 i1 (.agg #[.int .i64 0, .int .i64 0]) 2 16 Try.underlying50 hi1 hy0 hy1 hy2 rfl (by decide) (.slice d0 zs.length c0) zs.length _ hs hown ⟨g, 0, none⟩ 1 1 (by decide) [.int .i64 i.1, .int .i64 i.2] hx rfl (fun j u hu => by
    match j, hu with
    | 0, hu =>
      simp at hu
      subst hu
      simpa [Addr.add] using hc
    | 1, hu =>
      simp at hu
      subst hu
      simpa [Addr.add] using hc2) (fun u hu => by simp at hu; rcases hu with rfl | rfl <;> rfl) (by unfold maxLen; omega) (by omega) hB ?_
  intro v' w' h2 h3
  have h2' : w'.ownsRow B 65 2 v' (zs ++ [i]).length (flatY (zs ++ [i])) := by
    rw [flatY_append, List.length_append]
    exact h2
  rcases h3 with ⟨g1, cap, e1, rfl, hg⟩ | ⟨cap, rfl, hg⟩
  · cases e1
    refine h _ _ w' ⟨by unfold CapY; simpa using h2', fun k hk hne => ?_, fun z hz => .inl hz, hg.size, hg.os, hg.tape, hg.output⟩
    exact hg.block k hk (fun e => by cases e; exact hne _ rfl rfl)
  · refine h _ _ w' ⟨by unfold CapY; simpa using h2', fun k hk hne => ?_, fun z hz => by cases hz; exact .inr (Nat.le_refl _), hg.size, hg.os, hg.tape, hg.output⟩
    exact hg.block k hk (fun e => by cases e)
theorem wpList_appY1 {w : World} {ops : Array Oper} {rest : List Oper} {o : Oper} {a : Act} {Q : Exit → Act → World → Prop} (hgd : o.guard = none) (s x : Operand) (ho : o.op = .call { callee := .builtin .append, args := #[s, x], argTypes := #[50, 50] })
    (B : Nat) (d0 : Option Addr) (c0 : Nat) (zs : List (Int × Int)) (n : Nat) (hl : zs.length = n) (hs : a.eval s = .slice d0 n c0) (hown : CapY B w d0 c0 zs) (g : Nat) (i : Int × Int) (hx : a.eval x = .slice (some ⟨g, 0, none⟩) 1 1) (hc : w.cell? ⟨g, 0, none⟩ = some (.int .i64 i.1)) (hc2 : w.cell? ⟨g, 1, none⟩ = some (.int .i64 i.2)) (hn : n ≤ 10000000) (hB : B ≤ w.heap.size)
    (h : ∀ d c' w', GrwY B w d0 (zs ++ [i]) w' d c' → wpList Try.prog ops Q rest (a.put o.dst (.slice d (n + 1) c')) w') : wpList Try.prog ops Q (o :: rest) a w := by
  subst hl
  exact wpList_appY hgd s x ho B d0 c0 zs hs hown g i hx hc hc2 hn hB h
/-! ### plain -/
/-- Runs, one number more. -/
def stepY (R : List (Int × Int)) (x : Int) : List (Int × Int) :=
  match R.getLast? with
  | some p => if p.1 = x then R.dropLast ++ [(p.1, p.2 + 1)] else R ++ [(x, 1)]
  | none => [(x, 1)]
def runsY (l : List Int) : List (Int × Int) := l.foldl stepY []
theorem runs_snoc (l : List Int) (x : Int) : runsY (l ++ [x]) = stepY (runsY l) x := by unfold runsY; rw [List.foldl_append]; rfl
theorem step_same {R : List (Int × Int)} {x c : Int} : stepY (R ++ [(x, c)]) x = R ++ [(x, c + 1)] := by
  unfold stepY
  rw [List.getLast?_concat, List.dropLast_concat]
  simp
theorem step_other {R : List (Int × Int)} {x y c : Int} (h : x ≠ y) : stepY (R ++ [(x, c)]) y = R ++ [(x, c)] ++ [(y, 1)] := by
  unfold stepY
  rw [List.getLast?_concat]
  simp [h]
/-- What the runs of a list are. -/
structure RunY (l : List Int) (R : List (Int × Int)) : Prop where
  few : R.length ≤ l.length
  last : l ≠ [] → ∃ R' c, R = R' ++ [(nth l (l.length - 1), c)] ∧ 1 ≤ c ∧ c ≤ (l.length : Int)
  none : l = [] → R = []
  flat : R.flatMap (fun p => List.replicate p.2.toNat p.1) = l
  pos : ∀ p ∈ R, 1 ≤ p.2
  apart : R.Pairwise (fun _ _ => True) ∧ ∀ i, i + 1 < R.length → (nthY R i).1 ≠ (nthY R (i + 1)).1
theorem nthY_app {R S : List (Int × Int)} {i : Nat} (h : i < R.length) : nthY (R ++ S) i = nthY R i := by
  unfold nthY
  rw [List.getD_eq_getElem?_getD, List.getD_eq_getElem?_getD, List.getElem?_append_left h]
theorem nthY_last {R : List (Int × Int)} {p : Int × Int} : nthY (R ++ [p]) R.length = p := by
  unfold nthY
  rw [List.getD_eq_getElem?_getD, List.getElem?_append_right (Nat.le_refl _), Nat.sub_self]
  rfl
theorem nth_lastZ (l : List Int) (x : Int) : nth (l ++ [x]) ((l ++ [x]).length - 1) = x := by
  unfold nth
  rw [List.getD_eq_getElem?_getD, List.length_append, List.length_singleton, Nat.add_sub_cancel, List.getElem?_append_right (Nat.le_refl _), Nat.sub_self]
  rfl
theorem RunY.snoc {l : List Int} {R : List (Int × Int)} (h : RunY l R) (x : Int) : RunY (l ++ [x]) (stepY R x) := by
  by_cases hl : l = []
  · have hR := h.none hl
    subst hl hR
    refine ⟨Nat.le_refl _, fun _ => ⟨[], 1, rfl, by decide, by simp⟩, (fun e => by cases e), by simp [stepY], fun p hp => ?_, ⟨?_, fun i hi => ?_⟩⟩
    · have : p = (x, 1) := by simpa [stepY] using hp
      subst this; exact Int.le_refl 1
    · simp [stepY]
    · simp [stepY] at hi
  · obtain ⟨R', c, rfl, hc, hc2⟩ := h.last hl
    generalize nth l (l.length - 1) = z at *
    have hf := h.flat
    rw [List.flatMap_append] at hf
    by_cases e : z = x
    · subst e
      rw [step_same]
      refine ⟨by have := h.few; simp at this ⊢; omega, fun _ => ⟨R', c + 1, by rw [nth_lastZ], by omega, by simp; omega⟩, (fun e => by simp at e), ?_, fun p hp => ?_, ⟨?_, fun i hi => ?_⟩⟩
      · rw [List.flatMap_append, ← hf]
        simp only [List.flatMap_cons, List.flatMap_nil, List.append_nil]
        rw [show (c + 1).toNat = c.toNat + 1 by omega, List.replicate_succ', List.append_assoc]
      · rcases List.mem_append.1 hp with hp | hp
        · exact h.pos p (List.mem_append_left _ hp)
        · have : p = (z, c + 1) := by simpa using hp
          subst this; show 1 ≤ c + 1; omega
      · exact List.pairwise_iff_forall_sublist.2 fun _ => trivial
      · have hi2 : i + 1 < (R' ++ [(z, c)]).length := by simpa using hi
        have h2 := h.apart.2 i hi2
        have hi3 : i < R'.length := by simp at hi; omega
        rw [nthY_app hi3] at h2 ⊢
        by_cases q : i + 1 < R'.length
        · rw [nthY_app q] at h2 ⊢; exact h2
        · have q2 : i + 1 = R'.length := by omega
          rw [q2, nthY_last] at h2 ⊢; exact h2
    · rw [step_other e]
      refine ⟨by have := h.few; simp at this ⊢; omega, fun _ => ⟨R' ++ [(z, c)], 1, by rw [nth_lastZ], by omega, by simp; omega⟩, (fun e => by simp at e), ?_, fun p hp => ?_, ⟨?_, fun i hi => ?_⟩⟩
      · rw [List.flatMap_append, h.flat]; simp
      · rcases List.mem_append.1 hp with hp | hp
        · exact h.pos p hp
        · have : p = (x, 1) := by simpa using hp
          subst this; exact Int.le_refl 1
      · exact List.pairwise_iff_forall_sublist.2 fun _ => trivial
      · by_cases q : i + 1 < (R' ++ [(z, c)]).length
        · rw [nthY_app q, nthY_app (Nat.lt_of_succ_lt q)]
          exact h.apart.2 i q
        · have q2 : i + 1 = (R' ++ [(z, c)]).length := by simp at hi q ⊢; omega
          rw [q2, nthY_last, nthY_app (by omega)]
          have q3 : i = R'.length := by simp at q2; omega
          rw [q3, nthY_last]
          exact e
theorem runs_is (l : List Int) : RunY l (runsY l) := by
  have key : ∀ (m : Nat) (l : List Int), l.length = m → RunY l (runsY l) := by
    intro m
    induction m with
    | zero =>
      intro l hl
      have e : l = [] := List.eq_nil_of_length_eq_zero hl
      subst e
      exact ⟨Nat.le_refl _, fun h => absurd rfl h, fun _ => rfl, rfl, (fun p hp => by cases hp), ⟨List.Pairwise.nil, fun i hi => absurd hi (Nat.not_lt_zero _)⟩⟩
    | succ m ih =>
      intro l hl
      have hne : l ≠ [] := fun e => by rw [e] at hl; cases hl
      have e := List.dropLast_concat_getLast hne
      rw [← e, runs_snoc]
      exact (ih l.dropLast (by rw [List.length_dropLast]; omega)).snoc _
  exact key _ l rfl
/-- Flat's answer: its error, its list. -/
def flatsY (R : List (Int × Int)) : List Int := R.flatMap (fun p => List.replicate p.2.toNat p.1)
def flawY : List (Int × Int) → Nat
  | [] => 0
  | p :: R => if ¬ (0 ≤ p.1 ∧ p.1 < 32) then 100 else if p.2 < 1 then 160 else flawY R
def sumY (R : List (Int × Int)) : Nat := (flatsY R).length
def chkY (R : List (Int × Int)) : Nat := if flawY R ≠ 0 then flawY R else if 2048 < sumY R then 5 else 0
theorem flats_app (R S : List (Int × Int)) : flatsY (R ++ S) = flatsY R ++ flatsY S := by unfold flatsY; rw [List.flatMap_append]
theorem flats_snoc (R : List (Int × Int)) (p : Int × Int) : flatsY (R ++ [p]) = flatsY R ++ List.replicate p.2.toNat p.1 := by rw [flats_app]; simp [flatsY]
theorem sum_snocY (R : List (Int × Int)) (p : Int × Int) : sumY (R ++ [p]) = sumY R + p.2.toNat := by unfold sumY; rw [flats_snoc, List.length_append, List.length_replicate]
theorem sum_appY (R S : List (Int × Int)) : sumY (R ++ S) = sumY R + sumY S := by unfold sumY; rw [flats_app, List.length_append]
theorem flaw_app (R S : List (Int × Int)) : flawY (R ++ S) = if flawY R ≠ 0 then flawY R else flawY S := by
  induction R with
  | nil => simp [flawY]
  | cons p R ih =>
    rw [List.cons_append, flawY, flawY, ih]
    split
    · simp
    · split
      · simp
      · rfl
end Go.Proofs.Ytmeogapffdgjlaa

/- Texts of one chain, laid one behind the other. -/
import Derived.Test.YtecmkienoofccaaPartBalanceSolves25
import Derived.WalkMore
import Derived.Test.YtecmkienoofccaaPartBalanceSolves20
namespace Go.Proofs.Ytecmkienoofccaa
open Go.ChangeShapes Go.WideShapes Go.ChangeAt Go.RowKit
theorem wpList_appG {w : World} {ops : Array Oper} {rest : List Oper} {o : Oper} {a : Act} {Q : Exit → Act → World → Prop} (hgd : o.guard = none) (s x : Operand) (ho : o.op = .call { callee := .builtin .append, args := #[s, x], argTypes := #[25, 25] })
    (B : Nat) (d0 : Option Addr) (c0 : Nat) (zs : List Int) (hs : a.eval s = .slice d0 zs.length c0) (hown : CapR B w d0 c0 zs) (g : Nat) (i : Int) (hx : a.eval x = .slice (some ⟨g, 0, none⟩) 1 1) (hc : w.cell? ⟨g, 0, none⟩ = some (.int .i64 i)) (hn : zs.length ≤ 1000000) (hB : B ≤ w.heap.size)
    (h : ∀ d c' w', GrwN B w d0 (zs ++ [i]) w' d c' → wpList Try.prog ops Q rest (a.put o.dst (.slice d (zs.length + 1) c')) w') : wpList Try.prog ops Q (o :: rest) a w := by
  obtain ⟨i1, hi1, hy0, hy1, hy2⟩ := info_parts Try.info3
  refine wpList_append_told (P := Try.prog) w hgd s x 25 ho B 3 i1 (.int .i64 0) 1 8 Try.underlying25 hi1 hy0 hy1 hy2 rfl (by decide) (.slice d0 zs.length c0) zs.length _ hs hown ⟨g, 0, none⟩ 1 1 (by decide) [.int .i64 i] hx rfl (fun j u hu => by
    match j, hu with
    | 0, hu =>
      simp at hu
      subst hu
      simpa [Addr.add] using hc) (fun u hu => by simp at hu; subst hu; rfl) (by unfold maxLen; omega) (by omega) hB ?_
  intro v' w' h2 h3
  have h2' : w'.ownsRow B 3 1 v' (zs ++ [i]).length ((zs ++ [i]).map (Value.int .i64)) := by simpa using h2
  rcases h3 with ⟨g1, cap, e1, rfl, hg⟩ | ⟨cap, rfl, hg⟩
  · cases e1
    refine h _ _ w' ⟨by unfold CapR; simpa using h2', fun k hk hne => ?_, fun z hz => .inl hz, hg.size, hg.os, hg.tape, hg.output⟩
    exact hg.block k hk (fun e => by cases e; exact hne _ rfl rfl)
  · refine h _ _ w' ⟨by unfold CapR; simpa using h2', fun k hk hne => ?_, fun z hz => by cases hz; exact .inr (Nat.le_refl _), hg.size, hg.os, hg.tape, hg.output⟩
    exact hg.block k hk (fun e => by cases e)
theorem GrwN.below {B Q : Nat} {V u : World} {d0 : Option Addr} {L : List Int} {d : Option Addr} {c : Nat} (h : GrwN B V d0 L u d c) (hQ : Q ≤ V.heap.size) (h0 : ∀ y, d0 = some y → Q ≤ y.block) : Below Q V u :=
  ⟨h.os, h.tape, h.output, h.size, fun k hk => h.keep k (by omega) (fun y hy => by have := h0 y hy; omega)⟩
/-- Two rows of a call's own, apart. -/
structure TwR (B : Nat) (w : World) (d1 : Option Addr) (c1 : Nat) (xs : List Int) (d2 : Option Addr) (c2 : Nat) (ys : List Int) : Prop where
  r1 : CapR B w d1 c1 xs
  r2 : CapR B w d2 c2 ys
  ne : ∀ x y, d1 = some x → d2 = some y → x.block ≠ y.block
theorem TwR.nil (B : Nat) (w : World) : TwR B w none 0 [] none 0 [] := ⟨CapR.nil _ _, CapR.nil _ _, fun x y h => by cases h⟩
theorem TwR.later {B : Nat} {w w' : World} {d1 : Option Addr} {c1 : Nat} {xs : List Int} {d2 : Option Addr} {c2 : Nat} {ys : List Int} (h : TwR B w d1 c1 xs d2 c2 ys) (hb : Below w.heap.size w w') : TwR B w' d1 c1 xs d2 c2 ys := ⟨h.r1.later hb, h.r2.later hb, h.ne⟩
theorem TwR.grow {B : Nat} {w w' : World} {d1 : Option Addr} {c1 : Nat} {xs : List Int} {d2 : Option Addr} {c2 : Nat} {ys zs : List Int} {d : Option Addr} {c : Nat} (h : TwR B w d1 c1 xs d2 c2 ys) (hg : GrwN B w d1 zs w' d c) : TwR B w' d c zs d2 c2 ys := by
  refine ⟨hg.own, h.r2.keep fun x hx => hg.keep _ (h.r2.lt x hx).2 (fun y hy => h.ne y x hy hx), fun x y hx hy => ?_⟩
  rcases hg.new x hx with e | e
  · exact h.ne x y e hy
  · have := (h.r2.lt y hy).2
    omega
def frV (x : Int × Int) : List Value := [.int .i64 x.1, .int .i64 x.2]
def flatX : List (Int × Int) → List Value
  | [] => []
  | x :: L => frV x ++ flatX L
def nthX (L : List (Int × Int)) (k : Nat) : Int × Int := L.getD k (0, 0)
def celX (x : Int × Int) (j : Nat) : Value := if j = 0 then .int .i64 x.1 else .int .i64 x.2
theorem flatX_len : ∀ (L : List (Int × Int)), (flatX L).length = L.length * 2
  | [] => rfl
  | x :: L => by show (frV x ++ flatX L).length = _; rw [List.length_append, flatX_len L, List.length_cons]; show 2 + _ = _; omega
theorem flatX_append : ∀ (L M : List (Int × Int)), flatX (L ++ M) = flatX L ++ flatX M
  | [], _ => rfl
  | x :: L, M => by show frV x ++ flatX (L ++ M) = frV x ++ flatX L ++ flatX M; rw [flatX_append L M, List.append_assoc]
theorem flatX_get : ∀ {L : List (Int × Int)} {k j : Nat}, k < L.length → j < 2 → (flatX L)[k * 2 + j]? = some (celX (nthX L k) j)
  | [], k, j, hk, _ => absurd hk (Nat.not_lt_zero _)
  | a :: L, 0, j, _, hj => by
    show (frV a ++ flatX L)[0 * 2 + j]? = _
    rw [Nat.zero_mul, Nat.zero_add, List.getElem?_append_left (by show j < 2; exact hj)]
    match j, hj with
    | 0, _ => rfl
    | 1, _ => rfl
  | a :: L, k + 1, j, hk, hj => by
    show (frV a ++ flatX L)[(k + 1) * 2 + j]? = _
    rw [List.getElem?_append_right (by show 2 ≤ _; omega)]
    have e : (k + 1) * 2 + j - (frV a).length = k * 2 + j := by show (k + 1) * 2 + j - 2 = _; omega
    rw [e]
    exact flatX_get (Nat.lt_of_succ_lt_succ hk) hj
/-- Steps as they lie. -/
def AtX (w : World) (a : Option Addr) (L : List (Int × Int)) : Prop := L = [] ∨ ∃ b off, a = some ⟨b, off, none⟩ ∧ ∀ k, k < L.length → w.cell? ⟨b, off + k * 2, none⟩ = some (.int .i64 (nthX L k).1) ∧ w.cell? ⟨b, off + k * 2 + 1, none⟩ = some (.int .i64 (nthX L k).2)
theorem AtX.below {w w' : World} {a : Option Addr} {L : List (Int × Int)} (h : AtX w a L) (hb : Below w.heap.size w w') : AtX w' a L := by
  rcases h with h | ⟨b, off, e, hc⟩
  · exact .inl h
  · exact .inr ⟨b, off, e, fun k hk => ⟨cellN_later hb (hc k hk).1, cellN_later hb (hc k hk).2⟩⟩
theorem AtX.flat {w : World} {ad : Addr} {L : List (Int × Int)} (h : AtX w (some ad) L) : ∀ j u, (flatX L)[j]? = some u → w.cell? (ad.add j) = some u := by
  intro j u hu
  have hj : j < L.length * 2 := by rw [← flatX_len]; exact (List.getElem?_eq_some_iff.1 hu).1
  rcases h with e | ⟨b, off, e, hc⟩
  · subst e; simp at hj
  · cases e
    have hk : j / 2 < L.length := by omega
    have e1 : j = j / 2 * 2 + j % 2 := by omega
    have hr : j % 2 < 2 := Nat.mod_lt _ (by decide)
    have h1 := flatX_get (L := L) hk hr
    rw [← e1, hu] at h1
    cases h1
    obtain ⟨c0, c1⟩ := hc (j / 2) hk
    have ea : (⟨b, off, none⟩ : Addr).add j = ⟨b, off + j / 2 * 2 + j % 2, none⟩ := by
      have e2 : off + j / 2 * 2 + j % 2 = off + j := by omega
      rw [e2]
      simp [Addr.add]
    rw [ea]
    clear ea e1
    generalize j / 2 = k at *
    generalize j % 2 = r at *
    match r, hr with
    | 0, _ => exact c0
    | 1, _ => exact c1
/-- A row of steps of a call's own, with room behind it. -/
def CapX (B : Nat) (w : World) (a : Option Addr) (c : Nat) (L : List (Int × Int)) : Prop := w.ownsRow B 75 2 (.slice a L.length c) L.length (flatX L)
theorem CapX.nil (B : Nat) (w : World) : CapX B w none 0 [] := World.ownsRow_nil _ _ _ _
theorem CapX.at {B : Nat} {w : World} {a : Option Addr} {c : Nat} {L : List (Int × Int)} (h : CapX B w a c L) : AtX w a L := by
  unfold CapX at h
  rcases h.2 with ⟨hv, hn⟩ | ⟨g, cap, cur, hv, hg, hh, hc, hm, hs, ht⟩
  · exact .inl (List.eq_nil_of_length_eq_zero hn)
  · cases hv
    refine .inr ⟨g, 0, rfl, fun k hk => ?_⟩
    have key : ∀ j, j < 2 → w.cell? ⟨g, k * 2 + j, none⟩ = some (celX (nthX L k) j) := fun j hj => by
      rw [h.cellAt (k * 2 + j) (by omega), flatX_get hk hj]
    rw [Nat.zero_add]
    exact ⟨key 0 (by decide), key 1 (by decide)⟩
theorem CapX.lt {B : Nat} {w : World} {a : Option Addr} {c : Nat} {L : List (Int × Int)} (h : CapX B w a c L) : ∀ x, a = some x → B ≤ x.block ∧ x.block < w.heap.size := by
  intro x hx
  rcases h.2 with ⟨hv, hn⟩ | ⟨g, cap, cur, hv, hg, hh, hc, hm, hs, ht⟩
  · simp at hv; rw [hv.1] at hx; cases hx
  · cases hv
    cases hx
    exact ⟨hg, (Array.getElem?_eq_some_iff.1 hh).1⟩
theorem CapX.none {B : Nat} {w : World} {a : Option Addr} {c : Nat} {L : List (Int × Int)} (h : CapX B w a c L) : a = Option.none → L.length = 0 ∧ c = 0 := by
  intro e
  rcases h.2 with ⟨hv, hn⟩ | ⟨g, cap, cur, hv, hg, hh, hc, hm, hs, ht⟩
  · simp at hv; exact ⟨hn, hv.2.2⟩
  · subst e; cases hv
theorem CapX.keep {B : Nat} {w w' : World} {a : Option Addr} {c : Nat} {L : List (Int × Int)} (h : CapX B w a c L) (hk : ∀ x, a = some x → w'.heap[x.block]? = w.heap[x.block]?) : CapX B w' a c L := by
  refine ⟨h.1, ?_⟩
  rcases h.2 with h2 | ⟨g, cap, cur, hv, hg, hh, r⟩
  · exact .inl h2
  · refine .inr ⟨g, cap, cur, hv, hg, ?_, r⟩
    cases hv
    rw [hk _ rfl]; exact hh
theorem CapX.later {B : Nat} {w w' : World} {a : Option Addr} {c : Nat} {L : List (Int × Int)} (h : CapX B w a c L) (hb : Below w.heap.size w w') : CapX B w' a c L := h.keep fun x hx => hb.block _ (h.lt x hx).2
theorem CapX.mono {B B' : Nat} {w : World} {a : Option Addr} {c : Nat} {L : List (Int × Int)} (h : CapX B w a c L) (hB : B' ≤ B) : CapX B' w a c L := by
  refine ⟨h.1, ?_⟩
  rcases h.2 with h2 | ⟨g, cap, cur, hv, hg, r⟩
  · exact .inl h2
  · exact .inr ⟨g, cap, cur, hv, Nat.le_trans hB hg, r⟩
theorem AtX.atP {w : World} {a : Option Addr} {L : List (Int × Int)} (h : AtX w a L) : AtP w a L := h
/-- A row of fractions has grown; all else stays. -/
structure GrwX (B : Nat) (V : World) (d0 : Option Addr) (L : List (Int × Int)) (u : World) (d : Option Addr) (c : Nat) : Prop where
  own : CapX B u d c L
  keep : ∀ k, k < V.heap.size → (∀ y, d0 = some y → y.block ≠ k) → u.heap[k]? = V.heap[k]?
  new : ∀ z, d = some z → d0 = some z ∨ V.heap.size ≤ z.block
  size : V.heap.size ≤ u.heap.size
  os : u.os = V.os
  tape : u.tape = V.tape
  output : u.output = V.output
theorem GrwX.below {B Q : Nat} {V u : World} {d0 : Option Addr} {L : List (Int × Int)} {d : Option Addr} {c : Nat} (h : GrwX B V d0 L u d c) (hQ : Q ≤ V.heap.size) (h0 : ∀ y, d0 = some y → Q ≤ y.block) : Below Q V u :=
  ⟨h.os, h.tape, h.output, h.size, fun k hk => h.keep k (by omega) (fun y hy => by have := h0 y hy; omega)⟩
theorem wpList_appX {w : World} {ops : Array Oper} {rest : List Oper} {o : Oper} {a : Act} {Q : Exit → Act → World → Prop} (hgd : o.guard = none) (s x : Operand) (ho : o.op = .call { callee := .builtin .append, args := #[s, x], argTypes := #[84, 84] })
    (B : Nat) (d0 : Option Addr) (c0 : Nat) (zs : List (Int × Int)) (hs : a.eval s = .slice d0 zs.length c0) (hown : CapX B w d0 c0 zs) (g : Nat) (i : Int × Int) (hx : a.eval x = .slice (some ⟨g, 0, none⟩) 1 1) (hc : w.cell? ⟨g, 0, none⟩ = some (.int .i64 i.1)) (hc2 : w.cell? ⟨g, 1, none⟩ = some (.int .i64 i.2)) (hn : zs.length ≤ 1000000) (hB : B ≤ w.heap.size)
    (h : ∀ d c' w', GrwX B w d0 (zs ++ [i]) w' d c' → wpList Try.prog ops Q rest (a.put o.dst (.slice d (zs.length + 1) c')) w') : wpList Try.prog ops Q (o :: rest) a w := by
  obtain ⟨i1, hi1, hy0, hy1, hy2⟩ := info_parts Try.infoFr
  refine wpList_append_told (P := Try.prog) w hgd s x 84 ho B 75 i1 (.agg #[.int .i64 0, .int .i64 0]) 2 16 Try.underlying84 hi1 hy0 hy1 hy2 rfl (by decide) (.slice d0 zs.length c0) zs.length _ hs hown ⟨g, 0, none⟩ 1 1 (by decide) [.int .i64 i.1, .int .i64 i.2] hx rfl (fun j u hu => by
    match j, hu with
    | 0, hu =>
      simp at hu
      subst hu
      simpa [Addr.add] using hc
    | 1, hu =>
      simp at hu
      subst hu
      simpa [Addr.add] using hc2) (fun u hu => by simp at hu; rcases hu with rfl | rfl <;> rfl) (by unfold maxLen; omega) (by omega) hB ?_
  intro v' w' h2 h3
  have h2' : w'.ownsRow B 75 2 v' (zs ++ [i]).length (flatX (zs ++ [i])) := by
    rw [flatX_append, List.length_append]
    exact h2
  rcases h3 with ⟨g1, cap, e1, rfl, hg⟩ | ⟨cap, rfl, hg⟩
  · cases e1
    refine h _ _ w' ⟨by unfold CapX; simpa using h2', fun k hk hne => ?_, fun z hz => .inl hz, hg.size, hg.os, hg.tape, hg.output⟩
    exact hg.block k hk (fun e => by cases e; exact hne _ rfl rfl)
  · refine h _ _ w' ⟨by unfold CapX; simpa using h2', fun k hk hne => ?_, fun z hz => by cases hz; exact .inr (Nat.le_refl _), hg.size, hg.os, hg.tape, hg.output⟩
    exact hg.block k hk (fun e => by cases e)
/-- A row of ints and a row of fractions of a call's own, apart. -/
structure TwX (B : Nat) (w : World) (d1 : Option Addr) (c1 : Nat) (xs : List Int) (d2 : Option Addr) (c2 : Nat) (ys : List (Int × Int)) : Prop where
  r1 : CapR B w d1 c1 xs
  r2 : CapX B w d2 c2 ys
  ne : ∀ x y, d1 = some x → d2 = some y → x.block ≠ y.block
theorem TwX.nil (B : Nat) (w : World) : TwX B w none 0 [] none 0 [] := ⟨CapR.nil _ _, CapX.nil _ _, fun x y h => by cases h⟩
theorem TwX.later {B : Nat} {w w' : World} {d1 : Option Addr} {c1 : Nat} {xs : List Int} {d2 : Option Addr} {c2 : Nat} {ys : List (Int × Int)} (h : TwX B w d1 c1 xs d2 c2 ys) (hb : Below w.heap.size w w') : TwX B w' d1 c1 xs d2 c2 ys := ⟨h.r1.later hb, h.r2.later hb, h.ne⟩
theorem TwX.grow1 {B : Nat} {w w' : World} {d1 : Option Addr} {c1 : Nat} {xs zs : List Int} {d2 : Option Addr} {c2 : Nat} {ys : List (Int × Int)} {d : Option Addr} {c : Nat} (h : TwX B w d1 c1 xs d2 c2 ys) (hg : GrwN B w d1 zs w' d c) : TwX B w' d c zs d2 c2 ys := by
  refine ⟨hg.own, h.r2.keep fun x hx => hg.keep _ (h.r2.lt x hx).2 (fun y hy => h.ne y x hy hx), fun x y hx hy => ?_⟩
  rcases hg.new x hx with e | e
  · exact h.ne x y e hy
  · have := (h.r2.lt y hy).2
    omega
theorem TwX.grow2 {B : Nat} {w w' : World} {d1 : Option Addr} {c1 : Nat} {xs : List Int} {d2 : Option Addr} {c2 : Nat} {ys zs : List (Int × Int)} {d : Option Addr} {c : Nat} (h : TwX B w d1 c1 xs d2 c2 ys) (hg : GrwX B w d2 zs w' d c) : TwX B w' d1 c1 xs d c zs := by
  refine ⟨h.r1.keep fun x hx => hg.keep _ (h.r1.lt x hx).2 (fun y hy e => h.ne x y hx hy e.symm), hg.own, fun x y hx hy => ?_⟩
  rcases hg.new y hy with e | e
  · exact h.ne x y hx e
  · have := (h.r1.lt x hx).2
    omega
theorem memB_next (H : Nat → Nat) (i h : Nat) : memB H (i + 1) h = if H i = h then memB H i h ++ [i] else memB H i h := by
  unfold memB
  rw [List.range_succ, List.filter_append]
  by_cases e : H i = h
  · rw [if_pos e]
    simp [e]
  · rw [if_neg e]
    simp [e]
theorem memB_len (H : Nat → Nat) (h : Nat) : ∀ i, (memB H i h).length ≤ i := fun i => by
  unfold memB
  have := List.length_filter_le (fun v => H v == h) (List.range i)
  simpa using this
theorem shsB_len (c : Nat → Nat) (h : Nat) (M : List Nat) : (shsB c h M).length = M.length := by unfold shsB; simp
theorem inRP_of {fs : List (Int × Int)} (h : ∀ x, x ∈ fs → fitB x.1 = true ∧ fitB x.2 = true) : InRP fs := by
  intro k
  unfold nthN nthD
  rw [List.getD_eq_getElem?_getD]
  by_cases hk : k < fs.length
  · rw [List.getElem?_eq_getElem hk]
    have := h _ (List.getElem_mem hk)
    exact ⟨fitB_true.1 this.1, fitB_true.1 this.2⟩
  · rw [List.getElem?_eq_none (by omega)]
    decide
theorem rowF_congr {N : Nat} {f g : Nat → Nat} (h : ∀ v, v < N → f v = g v) : rowF N f = rowF N g := by
  unfold rowF
  exact List.map_congr_left fun v hv => by rw [h v (List.mem_range.1 hv)]
theorem OwnS.atB {base : Nat} {w : World} {a : Option Addr} {n cap : Nat} {zs : List Int} (h : OwnS base w a n cap zs) : At w a zs := by
  rcases h.2 with ⟨rfl, rfl, rfl⟩ | ⟨g, rfl, hg, rfl, hr⟩
  · exact .inl (List.eq_nil_of_length_eq_zero h.1)
  · exact row_at h.1 hr
/-- How settle ends. -/
def SetE (w : World) (g B N : Nat) (c H f : Nat → Nat) (h : Nat) (E : Int) (e : Ending) (w' : World) : Prop :=
  ∃ ok : Bool, e = .returned (.bool ok) ∧ But g w w' ∧ ((ok = true ∧ E = 0 ∧ CapR B w' (some ⟨g, 0, none⟩) N (rowF N (fun v => if H v = h then c v else f v))) ∨ (ok = false ∧ E = 4 ∧ BigB c N))
/-- The counts written so far. -/
structure WrtB (B g N : Nat) (wr : World) (c f : Nat → Nat) (M : List Nat) (i : Nat) : Prop where
  ex : ∃ F, CapR B wr (some ⟨g, 0, none⟩) N (rowF N F) ∧ (∀ v, v ∈ M.take i → F v = c v) ∧ ∀ v, v ∉ M.take i → F v = f v
theorem WrtB.step {B g N : Nat} {wr : World} {c f : Nat → Nat} {M : List Nat} {i : Nat} (h : WrtB B g N wr c f M i) (hi : i < M.length) : WrtB B g N (wr.setCell ⟨g, M[i], none⟩ (.int .i64 (c M[i] : Int))) c f M (i + 1) := by
  obtain ⟨F, h1, h2, h3⟩ := h.ex
  refine ⟨updF F M[i] (c M[i]), by rw [← rowF_set]; exact h1.setAt _, fun v hv => ?_, fun v hv => ?_⟩
  · rw [List.take_add_one, List.getElem?_eq_getElem hi] at hv
    unfold updF
    by_cases e : v = M[i]
    · rw [if_pos e, e]
    · rw [if_neg e]
      rcases List.mem_append.1 hv with q | q
      · exact h2 v q
      · exact absurd (by simpa using q) e
  · rw [List.take_add_one, List.getElem?_eq_getElem hi] at hv
    have e : ¬ v = M[i] := fun e => hv (List.mem_append_right _ (by simp [e]))
    unfold updF
    rw [if_neg e]
    exact h3 v (fun q => hv (List.mem_append_left _ q))
theorem WrtB.fin {B g N : Nat} {wr : World} {c f H : Nat → Nat} {h i : Nat} (q : WrtB B g N wr c f (memB H N h) i) (hi : (memB H N h).length ≤ i) : CapR B wr (some ⟨g, 0, none⟩) N (rowF N (fun v => if H v = h then c v else f v)) := by
  obtain ⟨F, h1, h2, h3⟩ := q.ex
  rw [List.take_of_length_le hi] at h2 h3
  rw [rowF_congr (g := F)]
  · exact h1
  · intro v hv
    by_cases e : H v = h
    · rw [if_pos e, h2 v (memB_in.2 ⟨hv, e⟩)]
    · rw [if_neg e, h3 v (fun q => e (memB_in.1 q).2)]
set_option maxRecDepth 100000 in
set_option maxHeartbeats 32000000 in
theorem settle_any {N sb g B h tl : Nat} {E : Int} {ta ha : Option Addr} {tc hac : Nat} {c H f : Nat → Nat} (hN : N ≤ 1000) (w : World) (hsh : ShaB w sb N (fun v => shB (c v) (c (H v)))) (hft : ∀ v, v < N → fitB (shB (c v) (c (H v))).1 = true ∧ fitB (shB (c v) (c (H v))).2 = true) (hr : CapR B w (some ⟨g, 0, none⟩) N (rowF N f)) (hho : At w ha (rowF N H))
    (hsc : (E = 0 ∧ scE (shsB c h (memB H N h)) = 0 ∧ scR (shsB c h (memB H N h)) = (memB H N h).map fun v => (c v : Int)) ∨ (E = 4 ∧ scE (shsB c h (memB H N h)) = 4 ∧ BigB c N)) :
    Calls Try.prog 47 #[.slice (some ⟨g, 0, none⟩) N N, .slice (some ⟨sb, 0, none⟩) N N, .agg #[.slice ta tl tc, .slice ha N hac], .int .i64 (h : Int)] w (SetE w g B N c H f h E) := by
  have b0 := (Below.refl w.heap.size w).alloc (Nat.le_refl _) (.cells #[.slice ta tl tc, .slice ha N hac] 57)
  have X0 := hiddenN (blkA_new 57 w #[.slice ta tl tc, .slice ha N hac])
  have B0 := hiddenN b0
  have S0 := hiddenN (hsh.below b0)
  have R0 := hiddenN (hr.later b0)
  have O0 := hiddenN (hho.below b0)
  have HFT := hiddenN hft
  have HSC := hiddenN hsc
  have hgl := (hr.lt _ rfl).2
  have y1 := X0.out.cell (k := 1) rfl
  simp only [List.getElem_toArray, List.getElem_cons_zero, List.getElem_cons_succ] at y1
  clear b0 hsh hr hho hft hsc X0
  simp only at hgl
  obtain ⟨RE, hRE⟩ : ∃ R, SetE w g B N c H f h E = R := ⟨_, rfl⟩
  rw [hRE]
  have HRE := hiddenN hRE
  clear hRE
  go_enter Try.func47, Try.ntmps47
  go_upto_region 1 with fail
  generalize w.alloc (.cells #[.slice ta tl tc, .slice ha N hac] 57) = W0 at *
  obtain ⟨Z, hZ⟩ : ∃ q, W0.heap.size = q := ⟨_, rfl⟩
  have HZ := hiddenN hZ
  have hgZ : g < Z := by have := B0.out.size; omega
  clear hZ
  go_wp2
  go_loopg [9, 10, 21] N (fun gk u9 u10 u21 wr => ∃ (i : Nat) (d1 : Option Addr) (c1 : Nat) (d2 : Option Addr) (c2 : Nat), i ≤ N ∧ gk = N - i ∧ u9 = .slice d1 (intsF (memB H i h)).length c1 ∧ u10 = .slice d2 (shsB c h (memB H i h)).length c2 ∧ u21 = .int .i64 (i : Int) ∧ TwX Z wr d1 c1 (intsF (memB H i h)) d2 c2 (shsB c h (memB H i h)) ∧ Below Z W0 wr)
  case atStart => exact ⟨0, none, 0, none, 0, Nat.zero_le _, rfl, rfl, rfl, rfl, TwX.nil _ _, Below.refl _ _⟩
  case round =>
    obtain ⟨i, d1, c1, d2, c2, hiN, rfl, rfl, rfl, rfl, hT, hBr⟩ := hrel
    have BR := hiddenN hBr
    have T0 := hiddenN hT
    clear hBr hT y1
    have hBw : Z ≤ wr.heap.size := by have := BR.out.size; have := HZ.out; omega
    have hml : (memB H i h).length ≤ 1000 := by have := memB_len H h i; omega
    have hl1 : (intsF (memB H i h)).length ≤ 1000 := by rw [intsF_len]; exact hml
    have hl2 : (shsB c h (memB H i h)).length ≤ 1000 := by rw [shsB_len]; exact hml
    by_cases hlt : i < N
    · have hki : (i : Int) < (N : Int) := by omega
      rcases O0.out.below (by rw [HZ.out]; exact BR.out) with e | ⟨hb1, ho1, eh, hch⟩
      · have := rowF_len N H
        rw [e] at this
        simp at this
        omega
      have c0 := hch i (by rw [rowF_len]; exact hlt)
      rw [rowF_nth hlt] at c0
      subst eh
      clear hch
      have MN := hiddenN (memB_next H i h)
      by_cases hh : H i = h
      · rw [if_pos hh] at MN
        have I1 : Hid (intsF (memB H (i + 1) h) = intsF (memB H i h) ++ [(i : Int)]) := by show _ = _; rw [MN.out, intsF_snoc]
        have I2 : Hid (shsB c h (memB H (i + 1) h) = shsB c h (memB H i h) ++ [shB (c i) (c (H i))]) := by
          show _ = _
          rw [MN.out, hh]
          unfold shsB
          rw [List.map_append]
          rfl
        have SC0 : Hid (∀ U, Below Z W0 U → U.cell? ⟨sb, i * 2, none⟩ = some (.int .i64 (shB (c i) (c (H i))).1) ∧ U.cell? ⟨sb, i * 2 + 1, none⟩ = some (.int .i64 (shB (c i) (c (H i))).2)) := fun U hU => (S0.out.below (by rw [HZ.out]; exact hU)).cell hlt
        have hbe : ((H i : Int) == (h : Int)) = true := by simp; omega
        clear MN hh
        generalize intsF (memB H i h) = xs at *
        generalize shsB c h (memB H i h) = ys at *
        obtain ⟨sx, hsx⟩ : ∃ x, shB (c i) (c (H i)) = x := ⟨_, rfl⟩
        rw [hsx] at I2 SC0
        clear hsx
        generalize H i = hi' at *
        go_upto_region 7 with fail
        clear c0
        have bx := (Below.refl wr.heap.size wr).alloc (Nat.le_refl _) (.cells #[.int .i64 (i : Int)] 3)
        have CY := hiddenN ((blkA_new 3 wr #[.int .i64 (i : Int)]).cell (k := 0) rfl)
        have CX := hiddenN (T0.out.later bx)
        have hsX : Z ≤ (wr.alloc (.cells #[.int .i64 (i : Int)] 3)).heap.size := Nat.le_trans hBw bx.size
        have BX := hiddenN (BR.out.trans (bx.mono hBw))
        clear bx T0
        go_upto_region 8 with (at_builtin; refine wpList_appG rfl _ _ rfl Z d1 c1 xs rfl CX.out.r1 wr.heap.size (i : Int) rfl CY.out (by omega) hsX ?_; intro d9 c9 V4 hG; have GR := hiddenN hG; clear hG)
        have T4 := hiddenN (CX.out.grow1 GR.out)
        have B4 := hiddenN (BX.out.trans (GR.out.below hsX (fun y hy => (CX.out.r1.lt y hy).1)))
        have hB4 : Z ≤ V4.heap.size := by have := B4.out.size; have := HZ.out; omega
        obtain ⟨s0, s1⟩ := SC0.out V4 B4.out
        clear GR CX CY BX hsX SC0
        obtain ⟨sp, sq⟩ := sx
        simp only at s0 s1
        have bx := (Below.refl V4.heap.size V4).alloc (Nat.le_refl _) (.cells #[.int .i64 sp, .int .i64 sq] 75)
        have CY := hiddenN ((blkA_new 75 V4 #[.int .i64 sp, .int .i64 sq]).cell (k := 0) rfl)
        have CZ := hiddenN ((blkA_new 75 V4 #[.int .i64 sp, .int .i64 sq]).cell (k := 1) rfl)
        have CX := hiddenN (T4.out.later bx)
        have hsX : Z ≤ (V4.alloc (.cells #[.int .i64 sp, .int .i64 sq] 75)).heap.size := Nat.le_trans hB4 bx.size
        have BX := hiddenN (B4.out.trans (bx.mono hB4))
        clear bx T4
        go_upto_region 9 with (at_builtin; refine wpList_appX rfl _ _ rfl Z d2 c2 ys rfl CX.out.r2 V4.heap.size (sp, sq) rfl CY.out CZ.out (by omega) hsX ?_; intro d8 c8 V5 hG; have GR := hiddenN hG; clear hG)
        have T5 := hiddenN (CX.out.grow2 GR.out)
        have B5 := hiddenN (BX.out.trans (GR.out.below hsX (fun y hy => (CX.out.r2.lt y hy).1)))
        clear GR CX CY CZ BX hsX s0 s1
        go_wp2
        go_roundg (N - (i + 1))
        case measure => omega
        case rel => exact ⟨i + 1, d9, c9, d8, c8, by omega, rfl, by rw [I1.out, List.length_append]; rfl, by rw [I2.out, List.length_append]; rfl, by go_num, by rw [I1.out, I2.out]; exact T5.out, B5.out⟩
      · rw [if_neg hh] at MN
        have hbe : ((H i : Int) == (h : Int)) = false := by simp; omega
        clear hh
        generalize H i = hi' at *
        go_wp2
        go_roundg (N - (i + 1))
        case measure => omega
        case rel => exact ⟨i + 1, d1, c1, d2, c2, by omega, rfl, by rw [MN.out], by rw [MN.out], by go_num, by rw [MN.out]; exact T0.out, BR.out⟩
    · have ei : i = N := by omega
      have hki : ¬ (i : Int) < (N : Int) := by omega
      have IR : Hid (InRP (shsB c h (memB H i h))) := inRP_of fun x hx => by
        unfold shsB at hx
        obtain ⟨v, hv, rfl⟩ := List.mem_map.1 hx
        obtain ⟨q1, q2⟩ := memB_in.1 hv
        rw [← q2]
        exact HFT.out v (by omega)
      have SF := hiddenN (scale_frac d2 (shsB c h (memB H i h)) _ c2 wr rfl (by omega) IR.out T0.out.r2.at.atP)
      unfold ScaleEnd at SF
      have T1 := hiddenN T0.out.r1
      have ML : Hid (∀ v, v ∈ memB H i h → v < N) := fun v hv => by have := (memB_in.1 hv).1; omega
      have FIN : Hid (∀ U, WrtB B g N U c f (memB H i h) (memB H i h).length → CapR B U (some ⟨g, 0, none⟩) N (rowF N (fun v => if H v = h then c v else f v))) := fun U q => by
        rw [ei] at q
        exact q.fin (Nat.le_refl _)
      have HSC : Hid ((E = 0 ∧ scE (shsB c h (memB H i h)) = 0 ∧ scR (shsB c h (memB H i h)) = (memB H i h).map fun v => (c v : Int)) ∨ (E = 4 ∧ scE (shsB c h (memB H i h)) = 4 ∧ BigB c N)) := by show _ ∨ _; rw [ei]; exact HSC.out
      have RW : Hid (∀ U, Below Z W0 U → WrtB B g N U c f (memB H i h) 0) := fun U hU => ⟨f, R0.out.keep (fun x hx => by cases hx; exact hU.block _ hgZ), (fun v hv => by simp at hv), fun v _ => rfl⟩
      rw [intsF_len]
      clear T0 IR hl1 ei
      rcases HSC.out with ⟨z0, z1, z2⟩ | ⟨z0, z1, z2⟩
      · rw [z1, z2] at SF
        have Z0 := hiddenN z0
        clear HSC z0 z1 z2 S0 HFT
        generalize memB H i h = M at *
        have hsl := shsB_len c h M
        obtain ⟨yl, hyl⟩ : ∃ q, (shsB c h M).length = q := ⟨_, rfl⟩
        generalize scK (shsB c h M) = sk at *
        rw [hyl] at SF ⊢
        clear hyl hl2 hsl
        go_upto_region 11 with (go_at_call 61; (with_reducible refine SF.out.mono ?_); rintro e' W5 ⟨b5, a5, n5, cap5, rfl, ow⟩; have B5 := hiddenN b5; have O5 := hiddenN ow; clear b5 ow)
        have T5 := hiddenN (T1.out.later B5.out)
        have BW := hiddenN (BR.out.trans (B5.out.mono hBw))
        have n5e : n5 = M.length := by have := O5.out.1; simp at this; omega
        subst n5e
        have A5 := hiddenN O5.out.atB
        have NE5 : Hid (∀ x, a5 = some x → x.block ≠ g) := fun x hx => by
          rcases O5.out.2 with ⟨rfl, -, -⟩ | ⟨g5, rfl, hg5, -, -⟩
          · cases hx
          · cases hx
            show g5 ≠ g
            omega
        have NE1 : Hid (∀ x, d1 = some x → x.block ≠ g) := fun x hx => by have := (T5.out.lt x hx).1; omega
        have M5 := hiddenN T5.out.at
        have RR := hiddenN (RW.out W5 BW.out)
        clear SF T1 T5 RW O5 R0 O0
        go_wp2
        go_loopg [51] M.length (fun gk u w2 => ∃ j : Nat, j ≤ M.length ∧ gk = M.length - j ∧ u = .int .i64 (j : Int) ∧ WrtB B g N w2 c f M j ∧ But g W5 w2)
        case atStart => exact ⟨0, Nat.zero_le _, rfl, rfl, RR.out, But.of_below (Below.refl _ _)⟩
        case round =>
          obtain ⟨j, hjM, rfl, rfl, hW, hBt⟩ := hrel
          have WQ := hiddenN hW
          have BQ := hiddenN hBt
          clear hW hBt
          by_cases hjl : j < M.length
          · have hji : (j : Int) < (M.length : Int) := by omega
            rcases M5.out with e | ⟨mb, mo, em, hcm⟩
            · have := intsF_len M
              rw [e] at this
              simp at this
              omega
            rcases A5.out with e | ⟨wb, wo, ew, hcw⟩
            · simp at e
              rw [e] at hjl
              exact absurd hjl (Nat.not_lt_zero _)
            have m0 := hcm j (by rw [intsF_len]; exact hjl)
            have w0 := hcw j (by simp; exact hjl)
            rw [intsF_nth hjl] at m0
            have hnw : nth (M.map fun v => (c v : Int)) j = (c M[j] : Int) := by
              unfold nth
              rw [List.getD_eq_getElem?_getD, List.getElem?_map, List.getElem?_eq_getElem hjl]
              rfl
            rw [hnw] at w0
            replace m0 := cell_but2 BQ.out (NE1.out _ em) m0
            replace w0 := cell_but2 BQ.out (NE5.out _ ew) w0
            have hxN := ML.out _ (List.getElem_mem hjl)
            have WS := hiddenN (WQ.out.step hjl)
            obtain ⟨F, r1, -, -⟩ := WQ.out.ex
            have q0 := r1.nthCell (k := M[j]) (by rw [rowF_len]; exact hxN)
            have q1 := r1.fz M[j]
            subst em
            subst ew
            clear hcm hcw hnw r1 WQ ML
            obtain ⟨x, hx⟩ : ∃ x, M[j] = x := ⟨_, rfl⟩
            rw [hx] at m0 w0 hxN WS q0 q1
            clear hx
            have hxI : (x : Int) < (N : Int) := by omega
            generalize nth (rowF N F) x = old at *
            have BS := hiddenN (BQ.out.trans (But.set wr g x (.int .i64 (c x : Int))))
            generalize c x = cx at *
            go_wp2
            go_roundg (M.length - (j + 1))
            case measure => omega
            case rel => exact ⟨j + 1, by omega, rfl, by go_num, WS.out, BS.out⟩
          · have ej : j = M.length := by omega
            have hji : ¬ (j : Int) < (M.length : Int) := by omega
            have FF := hiddenN (FIN.out wr (by rw [← ej]; exact WQ.out))
            clear FIN RR
            go_wp2
            rw [← HRE.out]
            refine ⟨true, rfl, ?_, .inl ⟨rfl, Z0.out, FF.out⟩⟩
            have q1 : Below w.heap.size w W5 := B0.out.trans (BW.out.mono (by have := B0.out.size; have := HZ.out; omega))
            exact (But.of_below q1).trans BQ.out
      · rw [z1] at SF
        have BG := hiddenN z2
        have Z0 := hiddenN z0
        clear HSC z0 z1 z2 S0 HFT FIN RW ML
        generalize scR (shsB c h (memB H i h)) = rr at *
        generalize scK (shsB c h (memB H i h)) = sk at *
        go_wp2_with (go_at_call 61; (with_reducible refine SF.out.mono ?_); rintro e' W5 ⟨b5, a5, n5, cap5, rfl, ow⟩; have B5 := hiddenN b5; clear b5 ow)
        rw [← HRE.out]
        have q1 : Below w.heap.size w W5 := B0.out.trans ((BR.out.trans (B5.out.mono hBw)).mono (by have := B0.out.size; have := HZ.out; omega))
        exact ⟨false, rfl, But.of_below q1, .inr ⟨rfl, Z0.out, BG.out⟩⟩
theorem SouB.rat {A : List NA} {N : Nat} (h : SouB A N) : RatB A A.length := fun j hj => by
  obtain ⟨-, -, -, -, -, -, h1, -, h2, -⟩ := h.ends j hj
  exact ⟨h1, h2⟩
theorem SouB.arc {A : List NA} {N : Nat} (h : SouB A N) : ∀ j, j < A.length → fN A j < N ∧ tN A j < N := fun j hj => by
  obtain ⟨-, -, -, -, h1, h2, -⟩ := h.ends j hj
  exact ⟨h1, h2⟩
theorem settle_yes {N sb g B h tl : Nat} {ta ha : Option Addr} {tc hac : Nat} {c H f : Nat → Nat} (hN : N ≤ 1000) (w : World) (hsh : ShaB w sb N (fun v => shB (c v) (c (H v)))) (hft : ∀ v, v < N → fitB (shB (c v) (c (H v))).1 = true ∧ fitB (shB (c v) (c (H v))).2 = true) (hr : CapR B w (some ⟨g, 0, none⟩) N (rowF N f)) (hho : At w ha (rowF N H))
    (h1 : scE (shsB c h (memB H N h)) = 0) (h2 : scR (shsB c h (memB H N h)) = (memB H N h).map fun v => (c v : Int)) :
    Calls Try.prog 47 #[.slice (some ⟨g, 0, none⟩) N N, .slice (some ⟨sb, 0, none⟩) N N, .agg #[.slice ta tl tc, .slice ha N hac], .int .i64 (h : Int)] w fun e w' => e = .returned (.bool true) ∧ But g w w' ∧ CapR B w' (some ⟨g, 0, none⟩) N (rowF N (fun v => if H v = h then c v else f v)) :=
  (settle_any (E := 0) hN w hsh hft hr hho (.inl ⟨rfl, h1, h2⟩)).mono fun e w' q => by
    obtain ⟨ok, rfl, hb, ⟨rfl, -, h3⟩ | ⟨-, h3, -⟩⟩ := q
    · exact ⟨rfl, hb, h3⟩
    · exact absurd h3 (by decide)
theorem settle_no {N sb g B h tl : Nat} {ta ha : Option Addr} {tc hac : Nat} {c H f : Nat → Nat} (hN : N ≤ 1000) (w : World) (hsh : ShaB w sb N (fun v => shB (c v) (c (H v)))) (hft : ∀ v, v < N → fitB (shB (c v) (c (H v))).1 = true ∧ fitB (shB (c v) (c (H v))).2 = true) (hr : CapR B w (some ⟨g, 0, none⟩) N (rowF N f)) (hho : At w ha (rowF N H))
    (h1 : scE (shsB c h (memB H N h)) = 4) (h2 : BigB c N) :
    Calls Try.prog 47 #[.slice (some ⟨g, 0, none⟩) N N, .slice (some ⟨sb, 0, none⟩) N N, .agg #[.slice ta tl tc, .slice ha N hac], .int .i64 (h : Int)] w fun e w' => e = .returned (.bool false) ∧ But g w w' :=
  (settle_any (E := 4) hN w hsh hft hr hho (.inr ⟨rfl, h1, h2⟩)).mono fun e w' q => by
    obtain ⟨ok, rfl, hb, ⟨-, h3, -⟩ | ⟨rfl, -, -⟩⟩ := q
    · exact absurd h3 (by decide)
    · exact ⟨rfl, hb⟩
theorem rowF_nought (N : Nat) (H c : Nat → Nat) : List.replicate N (0 : Int) = rowF N (fun v => if H v < 0 then c v else 0) := by
  unfold rowF
  apply List.ext_getElem
  · simp
  · intro i h1 h2
    simp
theorem rowF_more (N i : Nat) (H c : Nat → Nat) : rowF N (fun v => if H v = i then c v else (if H v < i then c v else 0)) = rowF N (fun v => if H v < i + 1 then c v else 0) := by
  apply rowF_congr
  intro v _
  by_cases h1 : H v = i
  · rw [if_pos h1, if_pos (by omega)]
  · rw [if_neg h1]
    by_cases h2 : H v < i
    · rw [if_pos h2, if_pos (by omega)]
    · rw [if_neg h2, if_neg (by omega)]
theorem rowF_whole {N : Nat} {H c : Nat → Nat} (h : ∀ v, H v ≤ v) : rowF N (fun v => if H v < N then c v else 0) = rowF N c := by
  apply rowF_congr
  intro v hv
  rw [if_pos (Nat.lt_of_le_of_lt (h v) hv)]
/-- A count that passes MaxRep. -/
def bigN (c : Nat → Nat) (N : Nat) : Bool := (List.range N).any fun v => decide (4096 < c v)
theorem bigN_yes {c : Nat → Nat} {N v : Nat} (hv : v < N) (h : 4096 < c v) : bigN c N = true := by
  unfold bigN
  rw [List.any_eq_true]
  exact ⟨v, List.mem_range.2 hv, decide_eq_true h⟩
theorem bigN_no {c : Nat → Nat} {N : Nat} : bigN c N = false ↔ ∀ v, v < N → c v ≤ 4096 := by
  unfold bigN
  rw [List.any_eq_false]
  constructor
  · intro h v hv
    have := h v (List.mem_range.2 hv)
    simp at this
    exact this
  · intro h v hv
    have := h v (List.mem_range.1 hv)
    simp
    exact this
theorem BigB.big {c : Nat → Nat} {N : Nat} (h : BigB c N) : bigN c N = true := by
  obtain ⟨u, h1, h2⟩ := h
  exact bigN_yes h1 (by omega)
theorem win_row {c : Nat → Nat} {N : Nat} (hc : ∀ v, 1 ≤ c v) : winB (rowF N c) = !bigN c N := by
  cases hb : bigN c N with
  | false =>
    show _ = true
    rw [winB_iff]
    intro k hk
    rw [rowF_len] at hk
    rw [rowF_nth hk]
    have := bigN_no.1 hb k hk
    have := hc k
    omega
  | true =>
    show _ = false
    cases hw : winB (rowF N c) with
    | false => rfl
    | true =>
      rw [winB_iff] at hw
      have : bigN c N = false := bigN_no.2 fun v hv => by
        have := hw v (by rw [rowF_len]; exact hv)
        rw [rowF_nth hv] at this
        omega
      rw [this] at hb
      cases hb
/-- How forestCounts ends. -/
def FcE (w : World) (N : Nat) (c : Nat → Nat) (e : Ending) (w' : World) : Prop :=
  ∃ (d : Option Addr) (n cap : Nat), e = .returned (.tuple #[.slice d n cap, .bool (!bigN c N)]) ∧ Below w.heap.size w w' ∧ (bigN c N = false → n = N ∧ CapR w.heap.size w' d cap (rowF N c))
set_option maxRecDepth 100000 in
set_option maxHeartbeats 32000000 in
theorem forestCounts_any {N : Nat} {A : List NA} {aa ta ha : Option Addr} {ac tc hac : Nat} (hS : SouB A N) (hN : N ≤ 1000) (hAl : A.length ≤ 1000) (w : World) (h1 : AtN w aa A) (h2 : At w ta (intsF (treF A A.length))) (h3 : At w ha (rowF N (homF A A.length))) :
    Calls Try.prog 32 #[.agg #[.int .i64 (N : Int), .slice aa A.length ac], .agg #[.slice ta (treF A A.length).length tc, .slice ha N hac]] w (FcE w N (cntB A A.length)) := by
  obtain ⟨i0, hi, hz0, hz1, hz2⟩ := info_parts Try.info3
  have hc : ∀ v, 1 ≤ cntB A A.length v := fun v => cntB_pos hS.rat (Nat.le_refl _) v
  have SCA : Hid (∀ i, i < N → (scE (shsB (cntB A A.length) i (memB (homF A A.length) N i)) = 0 ∧ scR (shsB (cntB A A.length) i (memB (homF A A.length) N i)) = (memB (homF A A.length) N i).map fun v => (cntB A A.length v : Int)) ∨ (scE (shsB (cntB A A.length) i (memB (homF A A.length) N i)) = 4 ∧ BigB (cntB A A.length) N)) := fun i hiN => by
    by_cases hh : homF A A.length i = i
    · rcases scale_share (c := cntB A A.length) (h := i) (M := memB (homF A A.length) N i) hc (memB_in.2 ⟨hiN, hh⟩) (fun d hd => cnt_mem hS.rat hS.arc hiN hh hd) with ⟨-, q1, q2⟩ | ⟨q1, v, hv, q2⟩
      · exact .inl ⟨q1, q2⟩
      · exact .inr ⟨q1, v, (memB_in.1 hv).1, q2⟩
    · have e : memB (homF A A.length) N i = [] := by
        rw [List.eq_nil_iff_forall_not_mem]
        intro v hv
        have q := (memB_in.1 hv).2
        exact hh (by rw [← q, homF_idem])
      rw [e]
      exact .inl ⟨rfl, rfl⟩
  have CAR := hiddenN (fun (W : World) (g1 : AtN W aa A) (g2 : At W ta (intsF (treF A A.length))) (g3 : At W ha (rowF N (homF A A.length))) => carried_any (ac := ac) (tc := tc) (hac := hac) hS hN (fun j hj => treF_lt hj) (Nat.le_trans treF_len hAl) hc (fun j hj => cntB_even hj) (fun j hj => tree_home hj) (fun v => homF_le) (fun U q1 q2 => clo_all q1 q2) W g1 g2 g3)
  have HL : Hid (∀ v, homF A A.length v ≤ v) := fun v => homF_le
  have WR := hiddenN (win_row (N := N) hc)
  generalize cntB A A.length = c at *
  generalize homF A A.length = H at *
  generalize treF A A.length = T at *
  have b0 := (Below.refl w.heap.size w).alloc (Nat.le_refl _) (.cells #[.int .i64 (N : Int), .slice aa A.length ac] 24)
  have b1 := (Below.refl (w.alloc (.cells #[.int .i64 (N : Int), .slice aa A.length ac] 24)).heap.size (w.alloc (.cells #[.int .i64 (N : Int), .slice aa A.length ac] 24))).alloc (Nat.le_refl _) (.cells #[.slice ta T.length tc, .slice ha N hac] 57)
  have hs0 : (w.alloc (.cells #[.int .i64 (N : Int), .slice aa A.length ac] 24)).heap.size = w.heap.size + 1 := World.size_alloc _ _
  have b2 := b0.trans (b1.mono b0.size)
  have XN := hiddenN ((blkA_new 24 w #[.int .i64 (N : Int), .slice aa A.length ac]).below b1)
  have XF := hiddenN (blkA_new 57 (w.alloc (.cells #[.int .i64 (N : Int), .slice aa A.length ac] 24)) #[.slice ta T.length tc, .slice ha N hac])
  have L0 := hiddenN b2
  have KA := hiddenN (h1.below b2)
  have KT := hiddenN (h2.below b2)
  have KH := hiddenN (h3.below b2)
  rw [hs0] at XF
  clear b0 b1 b2 hs0 h1 h2 h3 hc
  obtain ⟨RE, hRE⟩ : ∃ R, FcE w N c = R := ⟨_, rfl⟩
  rw [hRE]
  have HRE := hiddenN hRE
  clear hRE
  go_enter Try.func32, Try.ntmps32
  go_upto_region 1 with fail
  generalize (w.alloc (.cells #[.int .i64 (N : Int), .slice aa A.length ac] 24)).alloc (.cells #[.slice ta T.length tc, .slice ha N hac] 57) = W0 at *
  obtain ⟨nb, hnb⟩ : ∃ q, w.heap.size = q := ⟨_, rfl⟩
  have HNB := hiddenN hnb
  rw [hnb] at XN XF L0 ⊢
  clear hnb
  have y0 := XN.out.cell (k := 0) rfl
  have y1 := XN.out.cell (k := 1) rfl
  have z0 := XF.out.cell (k := 0) rfl
  have z1 := XF.out.cell (k := 1) rfl
  simp only [List.getElem_toArray, List.getElem_cons_zero, List.getElem_cons_succ] at y0 y1 z0 z1
  have CL := hiddenN (CAR.out W0 KA.out KT.out KH.out)
  unfold CarE at CL
  go_upto_region 2 with (go_at_call 46; (with_reducible refine CL.out.mono ?_); rintro e' W1 ⟨x, d, n', rfl, b1, h1⟩; have B1 := hiddenN b1; have H1 := hiddenN h1; clear b1 h1)
  clear CL CAR y0 y1 z0 z1
  rcases H1.out with ⟨rfl, rfl, sb, rfl, hsb, sha, fit⟩ | ⟨rfl, big⟩
  · have SH := hiddenN sha
    have FT := hiddenN fit
    have X1 := hiddenN (XN.out.below B1.out)
    have F1 := hiddenN (XF.out.below B1.out)
    have K1 := hiddenN (KH.out.below B1.out)
    have L1 := hiddenN (L0.out.trans (B1.out.mono (by have := L0.out.size; have := HNB.out; omega)))
    clear H1 sha fit KA KT KH XN XF hsb B1 L0
    have y0 := X1.out.cell (k := 0) rfl
    simp only [List.getElem_toArray, List.getElem_cons_zero] at y0
    have hB1 : nb ≤ W1.heap.size := by have := L1.out.size; have := HNB.out; omega
    go_upto_region 5 with (at_make; refine wpList_make_full _ rfl _ _ 25 rfl nb 3 i0 (.int .i64 0) 1 Try.underlying25 hi hz0 hz1 _ _ _ _ n' rfl rfl rfl rfl (by rw [hz2]; omega) (by unfold maxLen; omega) hB1 ?_; intro w1 hown0 hgrow0; have C0 := hiddenN (made_zeroF hown0); have B1 := hiddenN ((Below.refl W1.heap.size W1).grown hgrow0 (Nat.le_refl _) (fun k h => by cases h)); clear hown0 hgrow0)
    have L2 := hiddenN (L1.out.trans (B1.out.mono hB1))
    have X2 := hiddenN (X1.out.below B1.out)
    have F2 := hiddenN (F1.out.below B1.out)
    have K2 := hiddenN (K1.out.below B1.out)
    have S2 := hiddenN (SH.out.below B1.out)
    have gl : Hid (sb < W1.heap.size ∧ nb < W1.heap.size ∧ nb + 1 < W1.heap.size) := ⟨SH.out.lt, X1.out.lt, F1.out.lt⟩
    have KB : Hid (∀ x, ha = some x → rowF n' H ≠ [] → x.block < W1.heap.size) := fun x hx hne => at_lt K1.out hne hx
    rw [rowF_nought n' H c] at C0
    obtain ⟨g, hg⟩ : ∃ q, W1.heap.size = q := ⟨_, rfl⟩
    rw [hg] at C0 gl KB ⊢
    clear y0 X1 F1 K1 SH L1 B1 hg hi hz0 hz1 hz2 hB1
    have y0 := X2.out.cell (k := 0) rfl
    simp only [List.getElem_toArray, List.getElem_cons_zero] at y0
    go_wp2
    go_loopg [23] n' (fun gk u wr => ∃ i : Nat, i ≤ n' ∧ gk = n' - i ∧ u = .int .i64 (i : Int) ∧ CapR nb wr (some ⟨g, 0, none⟩) n' (rowF n' (fun v => if H v < i then c v else 0)) ∧ But g w1 wr)
    case atStart => exact ⟨0, Nat.zero_le _, rfl, rfl, C0.out, But.of_below (Below.refl _ _)⟩
    case round =>
      obtain ⟨i, hiN, rfl, rfl, hC, hBt⟩ := hrel
      have CQ := hiddenN hC
      have BQ := hiddenN hBt
      clear hC hBt y0
      have LQ : Hid (Below nb w wr) := L2.out.trans (BQ.out.below (by have := gl.out; omega) (by have := L2.out.size; have := HNB.out; omega))
      by_cases hlt : i < n'
      · have hki : (i : Int) < (n' : Int) := by omega
        have FQ := hiddenN (F2.out.keep (BQ.out.block _ F2.out.lt (by have := gl.out; omega)))
        have SQ := hiddenN (S2.out.keep (BQ.out.block _ S2.out.lt (by have := gl.out; omega)))
        have KQ : Hid (At wr ha (rowF n' H)) := by
          show At wr ha (rowF n' H)
          rcases K2.out with e | ⟨b, off, e, hcc⟩
          · exact .inl e
          · refine .inr ⟨b, off, e, fun k hk => cell_but2 BQ.out ?_ (hcc k hk)⟩
            have := KB.out _ e (fun q => by rw [q] at hk; exact absurd hk (Nat.not_lt_zero _))
            simp only at this
            omega
        have z0 := FQ.out.cell (k := 0) rfl
        have z1 := FQ.out.cell (k := 1) rfl
        simp only [List.getElem_toArray, List.getElem_cons_zero, List.getElem_cons_succ] at z0 z1
        rcases SCA.out i hlt with ⟨q1, q2⟩ | ⟨q1, q2⟩
        · have ST := hiddenN (settle_yes (ta := ta) (tl := T.length) (tc := tc) (hac := hac) hN wr SQ.out FT.out CQ.out KQ.out q1 q2)
          rw [rowF_more] at ST
          clear q1 q2
          go_wp2_with (go_at_call 47; (with_reducible refine ST.out.mono ?_); rintro e' W3 ⟨rfl, bt, cr⟩; have BN := hiddenN (BQ.out.trans bt); have CN := hiddenN cr; clear bt cr)
          go_roundg (n' - (i + 1))
          case measure => omega
          case rel => exact ⟨i + 1, by omega, rfl, by go_num, CN.out, BN.out⟩
        · have ST := hiddenN (settle_no (ta := ta) (tl := T.length) (tc := tc) (hac := hac) hN wr SQ.out FT.out CQ.out KQ.out q1 q2)
          have BG := hiddenN q2.big
          clear q1 q2
          go_wp2_with (go_at_call 47; (with_reducible refine ST.out.mono ?_); rintro e' W3 ⟨rfl, bt⟩; have BN := hiddenN bt; clear bt)
          rw [← HRE.out]
          refine ⟨none, 0, 0, by rw [BG.out]; rfl, ?_, fun h => by rw [BG.out] at h; cases h⟩
          rw [HNB.out]
          exact LQ.out.trans (BN.out.below (by have := gl.out; omega) (by have := LQ.out.size; have := HNB.out; omega))
      · have ei : i = n' := by omega
        have hki : ¬ (i : Int) < (n' : Int) := by omega
        rw [ei, rowF_whole HL.out] at CQ
        have AW := hiddenN (allWithin_any (some ⟨g, 0, none⟩) (rowF n' c) n' n' wr (rowF_len _ _) (by omega) CQ.out.at)
        rw [WR.out] at AW
        clear ei
        go_wp2_with (go_at_call 25; (with_reducible refine AW.out.mono ?_); rintro e' W3 ⟨rfl, eW⟩; have EW := hiddenN eW; clear eW)
        rw [← HRE.out]
        refine ⟨some ⟨g, 0, none⟩, n', n', rfl, ?_, fun _ => ⟨rfl, ?_⟩⟩
        · rw [HNB.out, ← EW.out]; exact LQ.out
        · rw [HNB.out, ← EW.out]; exact CQ.out
  · have BG := hiddenN big.big
    clear H1 big
    go_wp2
    rw [← HRE.out]
    refine ⟨none, 0, 0, by rw [BG.out]; rfl, ?_, fun h => by rw [BG.out] at h; cases h⟩
    rw [HNB.out]
    exact L0.out.trans (B1.out.mono (by have := L0.out.size; have := HNB.out; omega))
set_option maxRecDepth 100000 in
set_option maxHeartbeats 2000000 in
theorem gcdB_any (x y : Nat) (w : World) (hx : x ≤ 1000000) (hy : y ≤ 1000000) : Calls Try.prog 43 #[.int .i64 (x : Int), .int .i64 (y : Int)] w fun e w' => e = .returned (.int .i64 (Nat.gcd x y : Int)) ∧ w = w' := by
  go_enter Try.func43, Try.ntmps43
  go_wp2
  go_loopg [0, 1] y (fun gk u0 u1 wr => ∃ p q : Nat, q = gk ∧ u0 = .int .i64 (p : Int) ∧ u1 = .int .i64 (q : Int) ∧ w = wr ∧ Nat.gcd p q = Nat.gcd x y ∧ p ≤ 1000000 ∧ q ≤ 1000000)
  case atStart => exact ⟨x, y, rfl, rfl, rfl, rfl, rfl, hx, hy⟩
  case round =>
    obtain ⟨p, q, rfl, rfl, rfl, eW, hg, hp, hq⟩ := hrel
    subst eW
    have HG := hiddenN hg
    clear hg
    by_cases h0 : q = 0
    · subst h0
      rw [Nat.gcd_zero_right] at HG
      go_wp2
      go_ret
      exact ⟨by rw [← HG.out]; rfl, rfl⟩
    · have hq0 : ¬ (q : Int) = 0 := by omega
      have hqb : ((q : Int) != 0) = true := by simp; omega
      have hml : p % q < q := Nat.mod_lt _ (by omega)
      have hm : (p : Int).tmod (q : Int) = ((p % q : Nat) : Int) := rfl
      have hw : wrap64 ((p % q : Nat) : Int) = ((p % q : Nat) : Int) := by unfold wrap64; omega
      have hw2 : IntKind.i64.wrap ((p % q : Nat) : Int) = ((p % q : Nat) : Int) := by rw [IntKind.wrap_i64]; omega
      have GN : Hid (Nat.gcd q (p % q) = Nat.gcd x y) := by show _ = _; rw [← HG.out, Nat.gcd_comm q, ← Nat.gcd_rec, Nat.gcd_comm]
      obtain ⟨r, hr⟩ : ∃ r, p % q = r := ⟨_, rfl⟩
      rw [hr] at hm hw hw2 GN hml
      clear hr
      go_wp2
      go_roundg r
      case measure => omega
      case rel => exact ⟨q, r, rfl, rfl, rfl, rfl, GN.out, hq, by omega⟩
/-! ### The counts along the forest's list -/
def cntL (A : List NA) : List Nat → Nat → Nat := fun l => (l.foldl (fun (s : (Nat → Nat) × (Nat → Nat)) j => (joinB s.2 s.1 (s.2 (fN A j)) (s.2 (tN A j)) (gN A j * s.1 (fN A j)) (kN A j * s.1 (tN A j)), mergeF s.2 (s.2 (fN A j)) (s.2 (tN A j)))) (fun _ => 1, fun v => v)).1
def repL (A : List NA) : List Nat → Nat → Nat := fun l => (l.foldl (fun (s : (Nat → Nat) × (Nat → Nat)) j => (joinB s.2 s.1 (s.2 (fN A j)) (s.2 (tN A j)) (gN A j * s.1 (fN A j)) (kN A j * s.1 (tN A j)), mergeF s.2 (s.2 (fN A j)) (s.2 (tN A j)))) (fun _ => 1, fun v => v)).2
theorem cntL_snoc (A : List NA) (l : List Nat) (j : Nat) : cntL A (l ++ [j]) = joinB (repL A l) (cntL A l) (repL A l (fN A j)) (repL A l (tN A j)) (gN A j * cntL A l (fN A j)) (kN A j * cntL A l (tN A j)) ∧ repL A (l ++ [j]) = mergeF (repL A l) (repL A l (fN A j)) (repL A l (tN A j)) := by
  unfold cntL repL
  rw [List.foldl_append]
  exact ⟨rfl, rfl⟩
theorem cntL_tree (A : List NA) : ∀ k, cntL A (treF A k) = cntB A k ∧ repL A (treF A k) = homF A k
  | 0 => ⟨rfl, rfl⟩
  | k + 1 => by
    obtain ⟨h1, h2⟩ := cntL_tree A k
    by_cases e : homF A k (fN A k) = homF A k (tN A k)
    · rw [treF_same e, cntB_same e, homF_same e]
      exact ⟨h1, h2⟩
    · obtain ⟨q1, q2⟩ := cntL_snoc A (treF A k) k
      rw [treF_new e, cntB_new e, homF_new e, q1, q2, h1, h2]
      exact ⟨rfl, rfl⟩
/-- What one arc of the forest does to counts and parts. -/
theorem take_step {A : List NA} {i : Nat} (hi : i < (treF A A.length).length) : (treF A A.length).take (i + 1) = (treF A A.length).take i ++ [(treF A A.length)[i]] ∧ repL A ((treF A A.length).take i) (fN A (treF A A.length)[i]) ≠ repL A ((treF A A.length).take i) (tN A (treF A A.length)[i]) ∧ cntL A ((treF A A.length).take (i + 1)) = cntB A ((treF A A.length)[i] + 1) := by
  obtain ⟨h1, h2⟩ := tree_take A A.length i hi
  have e1 : (treF A A.length).take (i + 1) = (treF A A.length).take i ++ [(treF A A.length)[i]] := by
    rw [List.take_add_one, List.getElem?_eq_getElem hi]
    rfl
  refine ⟨e1, ?_, ?_⟩
  · rw [h1, (cntL_tree A _).2]
    exact h2
  · rw [e1, h1, ← treF_new h2, (cntL_tree A _).1]
theorem gcdB_below (x y : Nat) (w : World) (hx : x ≤ 1000000) (hy : y ≤ 1000000) : Calls Try.prog 43 #[.int .i64 (x : Int), .int .i64 (y : Int)] w fun e w' => e = .returned (.int .i64 (Nat.gcd x y : Int)) ∧ Below w.heap.size w w' := (gcdB_any x y w hx hy).mono fun e w' q => ⟨q.1, by rw [← q.2]; exact Below.refl _ _⟩
theorem take_at {A : List NA} {i j : Nat} (h : (treF A A.length)[i]? = some j) : (treF A A.length).take (i + 1) = (treF A A.length).take i ++ [j] ∧ repL A ((treF A A.length).take i) (fN A j) ≠ repL A ((treF A A.length).take i) (tN A j) ∧ cntL A ((treF A A.length).take (i + 1)) = cntB A (j + 1) ∧ cntL A ((treF A A.length).take i) = cntB A j := by
  obtain ⟨hi, e⟩ := List.getElem?_eq_some_iff.1 h
  obtain ⟨t1, t2, t3⟩ := take_step hi
  rw [e] at t1 t2 t3
  refine ⟨t1, t2, t3, ?_⟩
  rw [(tree_take A A.length i hi).1, e, (cntL_tree A j).1]
theorem upto_step (c' c : Nat → Nat) (k : Nat) : updF (fun u => if u < k then c' u else c u) k (c' k) = fun u => if u < k + 1 then c' u else c u := by
  funext u
  show (if u = k then c' k else if u < k then c' u else c u) = _
  by_cases e : u = k
  · rw [if_pos e, if_pos (by omega), e]
  · rw [if_neg e]
    by_cases h : u < k
    · rw [if_pos h, if_pos (by omega)]
    · rw [if_neg h, if_neg (by omega)]
theorem upto_same {c' c : Nat → Nat} {k : Nat} (h : c' k = c k) : (fun u => if u < k then c' u else c u) = fun u => if u < k + 1 then c' u else c u := by
  funext u
  by_cases e : u = k
  · rw [if_neg (by omega), if_pos (by omega), e, h]
  · by_cases h : u < k
    · rw [if_pos h, if_pos (by omega)]
    · rw [if_neg h, if_neg (by omega)]
/-- Parts tell who is joined. -/
def partB (N : Nat) (p H : Nat → Nat) : Prop := ∀ u v, u < N → v < N → (p u = p v ↔ H u = H v)
def glueB (p : Nat → Nat) (on tw : Nat) : Nat → Nat := fun u => if p u = tw then on else p u
theorem partB_step {N : Nat} {p H : Nat → Nat} {f t : Nat} (h : partB N p H) (hf : f < N) (ht : t < N) : partB N (glueB p (p f) (p t)) (mergeF H (H f) (H t)) := by
  intro u v hu hv
  have a1 := h u t hu ht
  have a2 := h v t hv ht
  have a3 := h u f hu hf
  have a4 := h v f hv hf
  have a5 := h u v hu hv
  unfold glueB mergeF
  by_cases b1 : p u = p t
  · have c1 := a1.1 b1
    rw [if_pos b1]
    by_cases b2 : p v = p t
    · have c2 := a2.1 b2
      rw [if_pos b2, c1, c2]
      simp
    · have c2 : ¬ H v = H t := fun e => b2 (a2.2 e)
      rw [if_neg b2]
      by_cases b4 : p v = p f
      · have c4 := a4.1 b4
        rw [b4, c1, c4]
        simp
        split <;> split <;> omega
      · have c4 : ¬ H v = H f := fun e => b4 (a4.2 e)
        rw [c1]
        constructor
        · intro e; exact absurd e.symm b4
        · intro e
          split at e <;> split at e <;> omega
  · have c1 : ¬ H u = H t := fun e => b1 (a1.2 e)
    rw [if_neg b1]
    by_cases b2 : p v = p t
    · have c2 := a2.1 b2
      rw [if_pos b2]
      by_cases b3 : p u = p f
      · have c3 := a3.1 b3
        rw [b3, c2, c3]
        simp
        split <;> split <;> omega
      · have c3 : ¬ H u = H f := fun e => b3 (a3.2 e)
        rw [c2]
        constructor
        · intro e; exact absurd e b3
        · intro e
          split at e <;> split at e <;> omega
    · have c2 : ¬ H v = H t := fun e => b2 (a2.2 e)
      rw [if_neg b2, a5]
      by_cases b3 : p u = p f
      · have c3 := a3.1 b3
        by_cases b4 : p v = p f
        · have c4 := a4.1 b4
          rw [c3, c4]
          simp
        · have c4 : ¬ H v = H f := fun e => b4 (a4.2 e)
          rw [c3]
          constructor
          · intro e; exact absurd e.symm c4
          · intro e
            split at e <;> split at e <;> omega
      · have c3 : ¬ H u = H f := fun e => b3 (a3.2 e)
        rw [if_neg (by omega)]
        by_cases b4 : p v = p f
        · have c4 := a4.1 b4
          rw [c4]
          constructor
          · intro e; exact absurd e c3
          · intro e
            split at e <;> omega
        · have c4 : ¬ H v = H f := fun e => b4 (a4.2 e)
          rw [if_neg (by omega)]
theorem join_part {N : Nat} {p H c : Nat → Nat} {f t x y u : Nat} (h : partB N p H) (hf : f < N) (ht : t < N) (hu : u < N) : joinB H c (H f) (H t) x y u = if p u = p f then c u * (y / Nat.gcd x y) else if p u = p t then c u * (x / Nat.gcd x y) else c u := by
  have a1 := h u f hu hf
  have a2 := h u t hu ht
  unfold joinB
  by_cases b1 : p u = p f
  · rw [if_pos b1, if_pos (a1.1 b1)]
  · rw [if_neg b1, if_neg (fun e => b1 (a1.2 e))]
    by_cases b2 : p u = p t
    · rw [if_pos b2, if_pos (a2.1 b2)]
    · rw [if_neg b2, if_neg (fun e => b2 (a2.2 e))]
/-- A new struct of five noughts. -/
def NewA (B : Nat) (u : World) (v : Value) : Prop := ∃ b, v = .pointer (some ⟨b, 0, none⟩) ∧ BlkA 52 b u #[.int .i64 0, .int .i64 0, .int .i64 0, .int .i64 0, .int .i64 0] ∧ B ≤ b
theorem NewA.later {B : Nat} {u u' : World} {v : Value} (h : NewA B u v) (hb : Below u.heap.size u u') : NewA B u' v := by
  obtain ⟨b, h1, h2, h3⟩ := h
  exact ⟨b, h1, h2.below hb, h3⟩
theorem newA_new {B : Nat} {u : World} (h : B ≤ u.heap.size) : NewA B (u.alloc (.cells #[.int .i64 0, .int .i64 0, .int .i64 0, .int .i64 0, .int .i64 0] 52)) (.pointer (some ⟨u.heap.size, 0, none⟩)) := ⟨_, rfl, blkA_new 52 u _, h⟩
theorem rowB_set {base : Nat} {w : World} {g N k : Nat} {f : Nat → Nat} (x : Nat) (h : CapR base w (some ⟨g, 0, none⟩) N (rowF N f)) : CapR base (w.setCell ⟨g, k, none⟩ (.int .i64 (x : Int))) (some ⟨g, 0, none⟩) N (rowF N (updF f k x)) := by
  rw [← rowF_set]
  exact h.setAt _
theorem rowB_old {base : Nat} {w : World} {g N k : Nat} {f : Nat → Nat} (h : CapR base w (some ⟨g, 0, none⟩) N (rowF N f)) (hk : k < N) : w.cell? ⟨g, k, none⟩ = some (.int .i64 (f k : Int)) := by
  have q := h.nthCell (k := k) (by rw [rowF_len]; exact hk)
  rw [rowF_nth hk] at q
  exact q
theorem rowB_other {base : Nat} {w : World} {g g' N k : Nat} {f : Nat → Nat} {x : Value} (h : CapR base w (some ⟨g, 0, none⟩) N (rowF N f)) (hne : g ≠ g') : CapR base (w.setCell ⟨g', k, none⟩ x) (some ⟨g, 0, none⟩) N (rowF N f) := h.setOther (fun y hy => by cases hy; exact hne) _
/-- Two rows of counts and parts, as the document's Counts fills them. -/
structure TwoB (nb g1 g2 N : Nat) (W0 wr : World) (c p : Nat → Nat) : Prop where
  r : CapR nb wr (some ⟨g1, 0, none⟩) N (rowF N c)
  q : CapR nb wr (some ⟨g2, 0, none⟩) N (rowF N p)
  b : Below g1 W0 wr
theorem TwoB.later {nb g1 g2 N : Nat} {W0 wr w' : World} {c p : Nat → Nat} (h : TwoB nb g1 g2 N W0 wr c p) (hb : Below wr.heap.size wr w') : TwoB nb g1 g2 N W0 w' c p := ⟨h.r.later hb, h.q.later hb, h.b.trans (hb.mono (by have := (h.r.lt _ rfl).2; simp only at this; omega))⟩
theorem TwoB.put1 {nb g1 g2 N : Nat} {W0 wr : World} {c p : Nat → Nat} (h : TwoB nb g1 g2 N W0 wr c p) (hne : g1 < g2) (k x : Nat) : TwoB nb g1 g2 N W0 (wr.setCell ⟨g1, k, none⟩ (.int .i64 (x : Int))) (updF c k x) p := ⟨rowB_set x h.r, rowB_other h.q (by omega), h.b.setCell (Nat.le_refl _) _⟩
theorem TwoB.put2 {nb g1 g2 N : Nat} {W0 wr : World} {c p : Nat → Nat} (h : TwoB nb g1 g2 N W0 wr c p) (hne : g1 < g2) (k x : Nat) : TwoB nb g1 g2 N W0 (wr.setCell ⟨g2, k, none⟩ (.int .i64 (x : Int))) c (updF p k x) := ⟨rowB_other h.r (by omega), rowB_set x h.q, h.b.setCell (by show g1 ≤ g2; omega) _⟩
theorem TwoB.put3 {nb g1 g2 N b : Nat} {W0 wr : World} {c p : Nat → Nat} (h : TwoB nb g1 g2 N W0 wr c p) (hb : g1 < b ∧ g2 < b) (k : Nat) (x : Value) : TwoB nb g1 g2 N W0 (wr.setCell ⟨b, k, none⟩ x) c p := ⟨rowB_other h.r (by omega), rowB_other h.q (by omega), h.b.setCell (by show g1 ≤ b; omega) _⟩
theorem TwoB.congr {nb g1 g2 N : Nat} {W0 wr : World} {c p c' p' : Nat → Nat} (h : TwoB nb g1 g2 N W0 wr c p) (h1 : ∀ v, v < N → c v = c' v) (h2 : ∀ v, v < N → p v = p' v) : TwoB nb g1 g2 N W0 wr c' p' := ⟨by rw [← rowF_congr h1]; exact h.r, by rw [← rowF_congr h2]; exact h.q, h.b⟩
theorem tdiv_nat (a b : Nat) : ((a : Nat) : Int).tdiv (b : Int) = ((a / b : Nat) : Int) := rfl
set_option maxRecDepth 100000 in
set_option maxHeartbeats 64000000 in
theorem rcounts_any {N : Nat} {A : List NA} {aa ta ha : Option Addr} {ac tc hac : Nat} (hS : SouB A N) (hN : N ≤ 1000) (hAl : A.length ≤ 1000) (w : World) (h1 : AtN w aa A) (h2 : At w ta (intsF (treF A A.length))) :
    Calls Try.prog 29 #[.agg #[.int .i64 (N : Int), .slice aa A.length ac], .agg #[.slice ta (treF A A.length).length tc, .slice ha N hac]] w (FcE w N (cntB A A.length)) := by
  obtain ⟨i0, hi, hz0, hz1, hz2⟩ := info_parts Try.info3
  have HS := hiddenN hS
  have TS := hiddenN (fun (i j : Nat) (h : (treF A A.length)[i]? = some j) => take_at (A := A) h)
  have CT := hiddenN (cntL_tree A A.length)
  have MO := hiddenN (fun (j v : Nat) (hj : j + 1 ≤ A.length) => cntB_mono hS.rat hj (Nat.le_refl _) v)
  have TLt := hiddenN (fun j hj => treF_lt (A := A) (k := A.length) (j := j) hj)
  have POS := hiddenN (fun (k v : Nat) (hk : k ≤ A.length) => cntB_pos hS.rat hk v)
  have hTl : (treF A A.length).length ≤ 1000 := Nat.le_trans treF_len hAl
  generalize treF A A.length = T at *
  have b0 := (Below.refl w.heap.size w).alloc (Nat.le_refl _) (.cells #[.int .i64 (N : Int), .slice aa A.length ac] 24)
  have b1 := (Below.refl (w.alloc (.cells #[.int .i64 (N : Int), .slice aa A.length ac] 24)).heap.size (w.alloc (.cells #[.int .i64 (N : Int), .slice aa A.length ac] 24))).alloc (Nat.le_refl _) (.cells #[.slice ta T.length tc, .slice ha N hac] 57)
  have hs0 : (w.alloc (.cells #[.int .i64 (N : Int), .slice aa A.length ac] 24)).heap.size = w.heap.size + 1 := World.size_alloc _ _
  have b2 := b0.trans (b1.mono b0.size)
  have XN := hiddenN ((blkA_new 24 w #[.int .i64 (N : Int), .slice aa A.length ac]).below b1)
  have XF := hiddenN (blkA_new 57 (w.alloc (.cells #[.int .i64 (N : Int), .slice aa A.length ac] 24)) #[.slice ta T.length tc, .slice ha N hac])
  have L0 := hiddenN b2
  have KA := hiddenN (arcs_at (h1.below b2))
  have KT := hiddenN (intsF_at (h2.below b2))
  rw [hs0] at XF
  clear b0 b1 b2 hs0 h1 h2 hS
  obtain ⟨RE, hRE⟩ : ∃ R, FcE w N (cntB A A.length) = R := ⟨_, rfl⟩
  rw [hRE]
  have HRE := hiddenN hRE
  clear hRE
  go_enter Try.func29, Try.ntmps29
  go_upto_region 1 with fail
  generalize (w.alloc (.cells #[.int .i64 (N : Int), .slice aa A.length ac] 24)).alloc (.cells #[.slice ta T.length tc, .slice ha N hac] 57) = W0 at *
  obtain ⟨nb, hnb⟩ : ∃ q, w.heap.size = q := ⟨_, rfl⟩
  have HNB := hiddenN hnb
  rw [hnb] at XN XF L0 ⊢
  obtain ⟨fb, hfb⟩ : ∃ q, nb + 1 = q := ⟨_, rfl⟩
  rw [hfb] at XF ⊢
  have y0 := XN.out.cell (k := 0) rfl
  simp only [List.getElem_toArray, List.getElem_cons_zero] at y0
  have hs0 := L0.out.size
  go_upto_region 2 with (at_make; refine wpList_make_full _ rfl _ _ 25 rfl nb 3 i0 (.int .i64 0) 1 Try.underlying25 hi hz0 hz1 _ _ _ _ N rfl rfl rfl rfl (by rw [hz2]; omega) (by unfold maxLen; omega) (by omega) ?_; intro w1 hown0 hgrow0; have C1 := hiddenN (made_zeroF hown0); have B1 := hiddenN ((Below.refl W0.heap.size W0).grown hgrow0 (Nat.le_refl _) (fun k h => by cases h)); have y0 := (XN.out.below B1.out).cell (k := 0) rfl; simp only [List.getElem_toArray, List.getElem_cons_zero] at y0; clear hown0 hgrow0)
  have hs1 := B1.out.size
  go_upto_region 3 with (at_make; refine wpList_make_full _ rfl _ _ 25 rfl nb 3 i0 (.int .i64 0) 1 Try.underlying25 hi hz0 hz1 _ _ _ _ N rfl rfl rfl rfl (by rw [hz2]; omega) (by unfold maxLen; omega) (by omega) ?_; intro w2 hown0 hgrow0; have C2 := hiddenN (made_zeroF hown0); have B2 := hiddenN ((Below.refl w1.heap.size w1).grown hgrow0 (Nat.le_refl _) (fun k h => by cases h)); clear hown0 hgrow0)
  have D1 := hiddenN (C1.out.later B2.out)
  have BB := hiddenN (B1.out.trans (B2.out.mono B1.out.size))
  have hgg : W0.heap.size < w1.heap.size := (C1.out.lt _ rfl).2
  have lts : nb < W0.heap.size ∧ fb < W0.heap.size := ⟨XN.out.lt, XF.out.lt⟩
  clear y0 hi hz0 hz1 hz2 C1 B1 B2 hs1 hnb
  obtain ⟨g1, hg1⟩ : ∃ q, W0.heap.size = q := ⟨_, rfl⟩
  obtain ⟨g2, hg2⟩ : ∃ q, w1.heap.size = q := ⟨_, rfl⟩
  rw [hg1] at D1 hgg lts
  simp only [hg1, hg2] at C2 ⊢
  rw [hg2] at hgg
  have HG1 := hiddenN hg1
  clear hg1 hg2 hs0 hfb
  have ST : Hid (TwoB nb g1 g2 N W0 w2 (fun u => if u < 0 then 1 else 0) (fun u => if u < 0 then u else 0)) := by
    refine ⟨?_, ?_, by have := BB.out; rw [HG1.out] at this; exact this⟩
    · have := D1.out
      rw [show List.replicate N (0 : Int) = rowF N (fun u => if u < 0 then 1 else 0) by unfold rowF; apply List.ext_getElem <;> simp] at this
      exact this
    · have := C2.out
      rw [show List.replicate N (0 : Int) = rowF N (fun u => if u < 0 then u else 0) by unfold rowF; apply List.ext_getElem <;> simp] at this
      exact this
  clear D1 C2 BB
  have XK : Hid (∀ U, Below g1 W0 U → BlkA 24 nb U #[.int .i64 (N : Int), .slice aa A.length ac] ∧ BlkA 57 fb U #[.slice ta T.length tc, .slice ha N hac]) := fun U hU => ⟨XN.out.keep (hU.block _ lts.1), XF.out.keep (hU.block _ lts.2)⟩
  have LE : Hid (∀ U, Below g1 W0 U → Below nb w U) := fun U hU => L0.out.trans (hU.mono (by omega))
  clear XN XF L0
  go_wp2
  go_loopg [8] N (fun gk u wr => ∃ k : Nat, k ≤ N ∧ gk = N - k ∧ u = .int .i64 (k : Int) ∧ TwoB nb g1 g2 N W0 wr (fun u => if u < k then 1 else 0) (fun u => if u < k then u else 0))
  case atStart => exact ⟨0, Nat.zero_le _, rfl, rfl, ST.out⟩
  case round =>
    clear ST
    obtain ⟨k, hkN, rfl, rfl, htw⟩ := hrel
    have TW := hiddenN htw
    clear htw
    have y0 := (XK.out wr TW.out.b).1.cell (k := 0) rfl
    have y1 := (XK.out wr TW.out.b).1.cell (k := 1) rfl
    simp only [List.getElem_toArray, List.getElem_cons_zero, List.getElem_cons_succ] at y0 y1
    by_cases hlt : k < N
    · have hki : (k : Int) < (N : Int) := by omega
      have k0 := rowB_old TW.out.r hlt
      have f0 := TW.out.r.fz k
      simp only [Nat.lt_irrefl, if_false] at k0
      go_upto_region 7 with fail
      have T1 := hiddenN (TW.out.put1 hgg k 1)
      simp only [Int.natCast_one] at T1
      clear k0 f0 TW y0 y1
      generalize wr.setCell ⟨g1, k, none⟩ (.int .i64 1) = V1 at *
      have k0 := rowB_old T1.out.q hlt
      have f0 := T1.out.q.fz k
      simp only [Nat.lt_irrefl, if_false] at k0
      have T2 := hiddenN ((T1.out.put2 hgg k k).congr (c' := fun u => if u < k + 1 then 1 else 0) (p' := fun u => if u < k + 1 then u else 0) (fun v _ => by rw [show updF (fun u => if u < k then 1 else 0) k 1 = _ from upto_step (fun _ => 1) (fun _ => 0) k]) (fun v _ => by rw [show updF (fun u => if u < k then u else 0) k k = _ from upto_step (fun u => u) (fun _ => 0) k]))
      go_wp2
      go_roundg (N - (k + 1))
      case measure => omega
      case rel => exact ⟨k + 1, by omega, rfl, by go_num, T2.out⟩
    · have hki : ¬ (k : Int) < (N : Int) := by omega
      have T0 := hiddenN (TW.out.congr (c' := fun _ => 1) (p' := fun u => u) (fun v hv => by show (if v < k then 1 else 0) = 1; rw [if_pos (by omega)]) (fun v hv => by show (if v < k then v else 0) = v; rw [if_pos (by omega)]))
      obtain ⟨W2, hW2⟩ : ∃ q, wr = q := ⟨_, rfl⟩
      rw [hW2] at T0 y0 y1 ⊢
      clear hW2 TW
      have z0 := (XK.out W2 T0.out.b).2.cell (k := 0) rfl
      simp only [List.getElem_toArray, List.getElem_cons_zero] at z0
      go_wp2
      go_loopg [9] T.length (fun gk u wr => ∃ (ix : Nat) (p : Nat → Nat), ix ≤ T.length ∧ gk = T.length - ix ∧ u = .int .i64 (ix : Int) ∧ TwoB nb g1 g2 N W0 wr (cntL A (T.take ix)) p ∧ partB N p (repL A (T.take ix)) ∧ (∀ v, v < N → cntL A (T.take ix) v ≤ 4096))
      case atStart => exact ⟨0, fun u => u, Nat.zero_le _, rfl, rfl, T0.out, fun u v _ _ => Iff.rfl, fun v _ => by show 1 ≤ 4096; decide⟩
      case round =>
        clear T0 y0 y1 z0
        obtain ⟨ix, p, hixT, rfl, rfl, htw, hpa, hle⟩ := hrel
        have TW := hiddenN htw
        have PA := hiddenN hpa
        have LEQ := hiddenN hle
        clear htw hpa hle
        have y0 := (XK.out wr TW.out.b).1.cell (k := 0) rfl
        have y1 := (XK.out wr TW.out.b).1.cell (k := 1) rfl
        have z0 := (XK.out wr TW.out.b).2.cell (k := 0) rfl
        simp only [List.getElem_toArray, List.getElem_cons_zero, List.getElem_cons_succ] at y0 y1 z0
        by_cases hiT : ix < T.length
        · have hki2 : (ix : Int) < (T.length : Int) := by omega
          obtain ⟨tb, tof, et, htb, hct⟩ := KT.out ix hiT
          have htb1 : tb < g1 := by have := HG1.out; omega
          have c0 := cellN_keep TW.out.b htb1 (hct ix hiT)
          have htm := List.getElem_mem hiT
          have htq := List.getElem?_eq_getElem hiT
          obtain ⟨jx, hjx⟩ : ∃ j, T[ix] = j := ⟨_, rfl⟩
          rw [hjx] at c0 htm htq
          obtain ⟨t1, t2, t3, t4⟩ := TS.out ix jx htq
          have hjA := TLt.out jx htm
          obtain ⟨ab, aof, ea, hab, hca⟩ := KA.out jx hjA
          obtain ⟨a0, a1, a2, a3, a4⟩ := hca jx hjA
          have hab1 : ab < g1 := by have := HG1.out; omega
          replace a0 := cellN_keep TW.out.b hab1 a0
          replace a1 := cellN_keep TW.out.b hab1 a1
          replace a2 := cellN_keep TW.out.b hab1 a2
          replace a3 := cellN_keep TW.out.b hab1 a3
          replace a4 := cellN_keep TW.out.b hab1 a4
          obtain ⟨e1, e2, e3, e4, hf, ht, u1, u2, u3, u4⟩ := HS.out.ends jx hjA
          rw [e1] at a0
          rw [e2] at a1
          rw [e3] at a2
          rw [e4] at a3
          subst et
          subst ea
          have JN := cntL_snoc A (T.take ix) jx
          rw [← t1] at JN
          have BIG : Hid (∀ v, v < N → 4096 < cntL A (T.take (ix + 1)) v → bigN (cntB A A.length) N = true) := fun v hv h => by
            rw [t3] at h
            exact bigN_yes hv (Nat.lt_of_lt_of_le h (MO.out jx v hjA))
          have pf := POS.out jx (fN A jx) (by omega)
          have pt := POS.out jx (tN A jx) (by omega)
          rw [← t4] at pf pt
          have lf := LEQ.out _ hf
          have lt := LEQ.out _ ht
          have JP : Hid (∀ u, u < N → cntL A (T.take (ix + 1)) u = if p u = p (fN A jx) then cntL A (T.take ix) u * (kN A jx * cntL A (T.take ix) (tN A jx) / Nat.gcd (gN A jx * cntL A (T.take ix) (fN A jx)) (kN A jx * cntL A (T.take ix) (tN A jx))) else if p u = p (tN A jx) then cntL A (T.take ix) u * (gN A jx * cntL A (T.take ix) (fN A jx) / Nat.gcd (gN A jx * cntL A (T.take ix) (fN A jx)) (kN A jx * cntL A (T.take ix) (tN A jx))) else cntL A (T.take ix) u) := fun u hu => by
            rw [JN.1]
            exact join_part PA.out hf ht hu
          have PS : Hid (partB N (glueB p (p (fN A jx)) (p (tN A jx))) (repL A (T.take (ix + 1)))) := by
            show partB _ _ _
            rw [JN.2]
            exact partB_step PA.out hf ht
          have hpne : p (fN A jx) ≠ p (tN A jx) := fun e => t2 ((PA.out _ _ hf ht).1 e)
          have hX : gN A jx * cntL A (T.take ix) (fN A jx) ≤ 262144 := Nat.le_trans (Nat.mul_le_mul u2 lf) (by decide)
          have hY : kN A jx * cntL A (T.take ix) (tN A jx) ≤ 262144 := Nat.le_trans (Nat.mul_le_mul u4 lt) (by decide)
          have hX1 : 1 ≤ gN A jx * cntL A (T.take ix) (fN A jx) := Nat.mul_pos u1 pf
          have hY1 : 1 ≤ kN A jx * cntL A (T.take ix) (tN A jx) := Nat.mul_pos u3 pt
          have mX : (gN A jx : Int) * (cntL A (T.take ix) (fN A jx) : Int) = ((gN A jx * cntL A (T.take ix) (fN A jx) : Nat) : Int) := (Int.natCast_mul _ _).symm
          have mY : (kN A jx : Int) * (cntL A (T.take ix) (tN A jx) : Int) = ((kN A jx * cntL A (T.take ix) (tN A jx) : Nat) : Int) := (Int.natCast_mul _ _).symm
          obtain ⟨cf, hcf⟩ : ∃ q, ((cntL A (T.take ix) (fN A jx) : Nat) : Int) = q := ⟨_, rfl⟩
          obtain ⟨ct, hct'⟩ : ∃ q, ((cntL A (T.take ix) (tN A jx) : Nat) : Int) = q := ⟨_, rfl⟩
          have HCF := hiddenN hcf
          have HCT := hiddenN hct'
          rw [hcf] at mX
          rw [hct'] at mY
          obtain ⟨gz, hgz⟩ : ∃ q, ((gN A jx : Nat) : Int) = q := ⟨_, rfl⟩
          obtain ⟨kz, hkz⟩ : ∃ q, ((kN A jx : Nat) : Int) = q := ⟨_, rfl⟩
          rw [hgz] at mX a2
          rw [hkz] at mY a3
          clear hcf hct' hgz hkz t1 t2 t3 t4 e1 e2 e3 e4 u1 u2 u3 u4 pf pt lf lt JN hct hca htm htq hjx hab1
          generalize gN A jx * cntL A (T.take ix) (fN A jx) = X at *
          generalize kN A jx * cntL A (T.take ix) (tN A jx) = Y at *
          obtain ⟨c', hc'⟩ : ∃ q, cntL A (T.take (ix + 1)) = q := ⟨_, rfl⟩
          have HC' := hiddenN hc'
          rw [hc'] at BIG JP
          clear hc'
          generalize cntL A (T.take ix) = cc at *
          generalize fN A jx = f at *
          generalize tN A jx = t at *
          generalize (nthNa A jx).s = az at *
          obtain ⟨p', hp'⟩ : ∃ q, glueB p (p f) (p t) = q := ⟨_, rfl⟩
          rw [hp'] at PS
          obtain ⟨r', hr'⟩ : ∃ q, repL A (T.take (ix + 1)) = q := ⟨_, rfl⟩
          have HR' := hiddenN hr'
          rw [hr'] at PS
          clear hr'
          have HP' := hiddenN hp'
          clear hp'
          obtain ⟨G, hG⟩ : ∃ q, Nat.gcd X Y = q := ⟨_, rfl⟩
          have hG1 : 1 ≤ G := by rw [← hG]; exact Nat.gcd_pos_of_pos_left Y hX1
          have GC := hiddenN (fun (U : World) => gcdB_below X Y U (by omega) (by omega))
          rw [hG] at JP GC
          clear hG
          have w12 : IntKind.i64.wrap (gz * cf) = (X : Int) := by rw [mX, IntKind.wrap_i64]; omega
          have w13 : IntKind.i64.wrap (kz * ct) = (Y : Int) := by rw [mY, IntKind.wrap_i64]; omega
          clear mX mY
          go_upto_region 11 with fail
          refine wp_region_said 10 (fun i u v => match i with
              | 0 => v = .pointer (some ⟨nb, 1, none⟩)
              | 1 => v = .slice (some ⟨ab, aof, none⟩) A.length ac
              | 2 => v = .pointer (some ⟨fb, 0, none⟩)
              | 3 => v = .slice (some ⟨tb, tof, none⟩) T.length tc
              | 4 => v = .int .i64 (ix : Int)
              | 5 => v = .pointer (some ⟨tb, tof + ix, none⟩)
              | 6 => v = .int .i64 (jx : Int)
              | 7 => v = .pointer (some ⟨ab, aof + jx * 5, none⟩)
              | 8 => v = .agg #[.int .i64 (f : Int), .int .i64 (t : Int), .int .i64 gz, .int .i64 kz, .int .i64 az]
              | 9 => NewA wr.heap.size u v
              | _ => True) (by kernel_rfl) (by kernel_rfl) (by kernel_rfl) (by kernel_rfl) ?_ ?_ ?_
          · intro i w v w' h hb
            match i, h with
            | 0, h => exact h
            | 1, h => exact h
            | 2, h => exact h
            | 3, h => exact h
            | 4, h => exact h
            | 5, h => exact h
            | 6, h => exact h
            | 7, h => exact h
            | 8, h => exact h
            | 9, h => exact NewA.later h hb
            | _ + 10, _ => trivial
          · intro i o ρ w' hi ho hb hc hf hfr hdep
            match i, hi with
            | 0, _ =>
              simp only [gTA, gCZ, gSI] at ho
              subst ho
              have ts : ρ (.tmp 2) = .pointer (some ⟨nb, 0, none⟩) := hfr 2 (by kernel_rfl)
              simp [go_sem, ts]
              exact ⟨Below.refl _ _, rfl⟩
            | 1, _ =>
              simp only [gTA, gCZ, gCS, gSI] at ho
              subst ho
              have ts : ρ (.tmp 43) = .pointer (some ⟨nb, 1, none⟩) := hdep 0 43 (by kernel_rfl) (by kernel_rfl)
              have kc := cellN_later hb y1
              simp [go_sem, ts, kc]
              exact ⟨Below.refl _ _, rfl⟩
            | 2, _ =>
              simp only [gTA, gCZ, gCS, gSI] at ho
              subst ho
              have ts : ρ (.tmp 3) = .pointer (some ⟨fb, 0, none⟩) := hfr 3 (by kernel_rfl)
              simp [go_sem, ts]
              exact ⟨Below.refl _ _, rfl⟩
            | 3, _ =>
              simp only [gTA, gCZ, gCS, gSI] at ho
              subst ho
              have ts : ρ (.tmp 45) = .pointer (some ⟨fb, 0, none⟩) := hdep 2 45 (by kernel_rfl) (by kernel_rfl)
              have kc := cellN_later hb z0
              simp [go_sem, ts, kc]
              exact ⟨Below.refl _ _, rfl⟩
            | 4, _ =>
              simp only [gTA, gCZ, gCS, gSI] at ho
              subst ho
              have ts : ρ (.tmp 9) = .int .i64 (ix : Int) := hfr 9 (by kernel_rfl)
              simp [go_sem, ts]
              exact ⟨Below.refl _ _, rfl⟩
            | 5, _ =>
              simp only [gTA, gCZ, gCS, gSI] at ho
              subst ho
              have t0 : ρ (.tmp 46) = .slice (some ⟨tb, tof, none⟩) T.length tc := hdep 3 46 (by kernel_rfl) (by kernel_rfl)
              have t1 : ρ (.tmp 47) = .int .i64 (ix : Int) := hdep 4 47 (by kernel_rfl) (by kernel_rfl)
              simp [go_sem, t0, t1, hiT]
              exact ⟨Below.refl _ _, rfl⟩
            | 6, _ =>
              simp only [gTA, gCZ, gCS, gSI] at ho
              subst ho
              have ts : ρ (.tmp 48) = .pointer (some ⟨tb, tof + ix, none⟩) := hdep 5 48 (by kernel_rfl) (by kernel_rfl)
              have kc := cellN_later hb c0
              simp [go_sem, ts, kc]
              exact ⟨Below.refl _ _, rfl⟩
            | 7, _ =>
              simp only [gTA, gCZ, gCS, gSI] at ho
              subst ho
              have t0 : ρ (.tmp 44) = .slice (some ⟨ab, aof, none⟩) A.length ac := hdep 1 44 (by kernel_rfl) (by kernel_rfl)
              have t1 : ρ (.tmp 49) = .int .i64 (jx : Int) := hdep 6 49 (by kernel_rfl) (by kernel_rfl)
              simp [go_sem, t0, t1, hjA]
              exact ⟨Below.refl _ _, rfl⟩
            | 8, _ =>
              simp only [gTA, gCZ, gCS, gSI] at ho
              subst ho
              have ts : ρ (.tmp 50) = .pointer (some ⟨ab, aof + jx * 5, none⟩) := hdep 7 50 (by kernel_rfl) (by kernel_rfl)
              have k0 := cellN_later hb a0
              have k1 := cellN_later hb a1
              have k2 := cellN_later hb a2
              have k3 := cellN_later hb a3
              have k4 := cellN_later hb a4
              simp [go_sem, ts, k0, k1, k2, k3, k4]
              exact ⟨Below.refl _ _, rfl⟩
            | 9, _ =>
              simp only [gTA, gCZ, gCS, gSI] at ho
              subst ho
              simp [go_sem]
              exact ⟨(Below.refl _ _).alloc (Nat.le_refl _) _, newA_new hb.size⟩
          · intro V w9 q9 hS
            have e0 : V 0 = .pointer (some ⟨nb, 1, none⟩) := hS 0 (by decide)
            have e1 : V 1 = .slice (some ⟨ab, aof, none⟩) A.length ac := hS 1 (by decide)
            have e2 : V 2 = .pointer (some ⟨fb, 0, none⟩) := hS 2 (by decide)
            have e3 : V 3 = .slice (some ⟨tb, tof, none⟩) T.length tc := hS 3 (by decide)
            have e4 : V 4 = .int .i64 (ix : Int) := hS 4 (by decide)
            have e5 : V 5 = .pointer (some ⟨tb, tof + ix, none⟩) := hS 5 (by decide)
            have e6 : V 6 = .int .i64 (jx : Int) := hS 6 (by decide)
            have e7 : V 7 = .pointer (some ⟨ab, aof + jx * 5, none⟩) := hS 7 (by decide)
            have e8 : V 8 = .agg #[.int .i64 (f : Int), .int .i64 (t : Int), .int .i64 gz, .int .i64 kz, .int .i64 az] := hS 8 (by decide)
            obtain ⟨bx, e9, hbx, hbl⟩ : NewA wr.heap.size w9 (V 9) := hS 9 (by decide)
            simp only [List.drop_succ_cons, List.drop_zero, List.take_succ_cons, List.take_zero, puts, e0, e1, e2, e3, e4, e5, e6, e7, e8, e9]
            simp only [Act.put, List.setIfInBounds_toArray, List.set_cons_zero, List.set_cons_succ]
            clear hS e0 e1 e2 e3 e4 e5 e6 e7 e8 e9
            have T9 := hiddenN (TW.out.later q9)
            have hbg : g1 < bx ∧ g2 < bx := by
              have q1 := (TW.out.r.lt _ rfl).2
              have q2 := (TW.out.q.lt _ rfl).2
              simp only at q1 q2
              omega
            have v0 := hbx.cell (k := 0) rfl
            have v1 := hbx.cell (k := 1) rfl
            have v2 := hbx.cell (k := 2) rfl
            have v3 := hbx.cell (k := 3) rfl
            have v4 := hbx.cell (k := 4) rfl
            simp only [List.getElem_toArray, List.getElem_cons_zero, List.getElem_cons_succ] at v0 v1 v2 v3 v4
            have fz0 := hbx.frozen 0
            have fz1 := hbx.frozen 1
            have fz2 := hbx.frozen 2
            have fz3 := hbx.frozen 3
            have fz4 := hbx.frozen 4
            have HB := hiddenN hbx
            clear q9 hbl a0 a1 a2 a3 a4 y0 y1 z0 c0 hbx TW V
            go_upto_region 12 with fail
            have X5 : Hid (BlkA 52 bx (((((w9.setCell ⟨bx, 0, none⟩ (.int .i64 (f : Int))).setCell ⟨bx, 1, none⟩ (.int .i64 (t : Int))).setCell ⟨bx, 2, none⟩ (.int .i64 gz)).setCell ⟨bx, 3, none⟩ (.int .i64 kz)).setCell ⟨bx, 4, none⟩ (.int .i64 az)) #[.int .i64 (f : Int), .int .i64 (t : Int), .int .i64 gz, .int .i64 kz, .int .i64 az]) := ((((HB.out.set 0 _).set 1 _).set 2 _).set 3 _).set 4 _
            have T5 := hiddenN (((((T9.out.put3 hbg 0 (.int .i64 (f : Int))).put3 hbg 1 (.int .i64 (t : Int))).put3 hbg 2 (.int .i64 gz)).put3 hbg 3 (.int .i64 kz)).put3 hbg 4 (.int .i64 az))
            clear v0 v1 v2 v3 v4 fz0 fz1 fz2 fz3 fz4 HB T9
            generalize ((((w9.setCell ⟨bx, 0, none⟩ (.int .i64 (f : Int))).setCell ⟨bx, 1, none⟩ (.int .i64 (t : Int))).setCell ⟨bx, 2, none⟩ (.int .i64 gz)).setCell ⟨bx, 3, none⟩ (.int .i64 kz)).setCell ⟨bx, 4, none⟩ (.int .i64 az) = W5 at *
            have hfI : (f : Int) < (N : Int) := by omega
            have htI : (t : Int) < (N : Int) := by omega
            have x0 := X5.out.cell (k := 0) rfl
            have x2 := X5.out.cell (k := 2) rfl
            simp only [List.getElem_toArray, List.getElem_cons_zero, List.getElem_cons_succ] at x0 x2
            have k0 := rowB_old T5.out.r hf
            rw [HCF.out] at k0
            go_quiet (fail)
            have K6 := drewF W5 nq
            have X6 := hiddenN (X5.out.below K6)
            have T6 := hiddenN (T5.out.later K6)
            clear K6 X5 T5 x0 x2 k0
            generalize W5.drewN nq = W6 at *
            have x1 := X6.out.cell (k := 1) rfl
            have x3 := X6.out.cell (k := 3) rfl
            simp only [List.getElem_toArray, List.getElem_cons_zero, List.getElem_cons_succ] at x1 x3
            have k0 := rowB_old T6.out.r ht
            rw [HCT.out] at k0
            go_upto_region 13 with fail
            go_quiet (fail)
            have K7 := drewF W6 nq
            have X7 := hiddenN (X6.out.below K7)
            have T7 := hiddenN (T6.out.later K7)
            clear K7 X6 T6 x1 x3 k0
            generalize W6.drewN nq = W7 at *
            go_upto_region 15 with (go_at_call 43; (with_reducible refine (GC.out _).mono ?_); rintro e W8 ⟨rfl, b8⟩; have B8 := hiddenN b8; clear b8)
            have X8 := hiddenN (X7.out.below B8.out)
            have T8 := hiddenN (T7.out.later B8.out)
            clear GC X7 T7 B8 w12 w13 HCF HCT
            have x0 := X8.out.cell (k := 0) rfl
            have x1 := X8.out.cell (k := 1) rfl
            simp only [List.getElem_toArray, List.getElem_cons_zero, List.getElem_cons_succ] at x0 x1
            have k0 := rowB_old T8.out.q hf
            have k1 := rowB_old T8.out.q ht
            have S8 : Hid (TwoB nb g1 g2 N W0 W8 (fun u => if u < 0 then c' u else cc u) (fun u => if u < 0 then p' u else p u)) := T8.out.congr (fun v _ => by rw [if_neg (Nat.not_lt_zero _)]) (fun v _ => by rw [if_neg (Nat.not_lt_zero _)])
            have DV : Hid (∀ u, u < N → (p u = p f → p' u = p u ∧ c' u = cc u * (Y / G)) ∧ (p u ≠ p f → p u = p t → p' u = p f ∧ c' u = cc u * (X / G)) ∧ (p u ≠ p f → p u ≠ p t → p' u = p u ∧ c' u = cc u)) := fun u hu => by
              have q1 := JP.out u hu
              have q2 : p' u = if p u = p t then p f else p u := by rw [← HP'.out]; rfl
              refine ⟨fun h1 => ?_, fun h1 h2 => ?_, fun h1 h2 => ?_⟩
              · rw [if_pos h1] at q1
                rw [if_neg (by rw [h1]; exact hpne)] at q2
                exact ⟨q2, q1⟩
              · rw [if_neg h1, if_pos h2] at q1
                rw [if_pos h2] at q2
                exact ⟨q2, q1⟩
              · rw [if_neg h1, if_neg h2] at q1
                rw [if_neg h2] at q2
                exact ⟨q2, q1⟩
            have BYX : Hid (Y / G ≤ 262144 ∧ X / G ≤ 262144) := ⟨Nat.le_trans (Nat.div_le_self _ _) hY, Nat.le_trans (Nat.div_le_self _ _) hX⟩
            clear JP HP' T8 X8 hpne
            go_wp2
            clear x0 x1 k0 k1
            go_loopg [16] N (fun gk u wr => ∃ vx : Nat, vx ≤ N ∧ gk = N - vx ∧ u = .int .i64 (vx : Int) ∧ TwoB nb g1 g2 N W0 wr (fun u => if u < vx then c' u else cc u) (fun u => if u < vx then p' u else p u) ∧ ∀ u, u < vx → c' u ≤ 4096)
            case atStart => exact ⟨0, Nat.zero_le _, rfl, rfl, S8.out, fun u hu => absurd hu (Nat.not_lt_zero _)⟩
            case round =>
              clear S8
              obtain ⟨vx, hvN0, rfl, rfl, htw, hlc⟩ := hrel
              have TV := hiddenN htw
              have LC := hiddenN hlc
              clear htw hlc
              have y0 := (XK.out wr TV.out.b).1.cell (k := 0) rfl
              simp only [List.getElem_toArray, List.getElem_cons_zero] at y0
              by_cases hvN : vx < N
              · have hvI : (vx : Int) < (N : Int) := by omega
                have lcv := LEQ.out vx hvN
                have k0 := rowB_old TV.out.r hvN
                have k1 := rowB_old TV.out.q hvN
                simp only [Nat.lt_irrefl, if_false] at k0 k1
                obtain ⟨dv1, dv2, dv3⟩ := DV.out vx hvN
                by_cases hon : p vx = p f
                · obtain ⟨ep, ec⟩ := dv1 hon
                  have hbe : ((p vx : Int) == (p f : Int)) = true := by simp; omega
                  have TN : Hid (∀ U, TwoB nb g1 g2 N W0 U (fun u => if u < vx then c' u else cc u) (fun u => if u < vx then p' u else p u) → TwoB nb g1 g2 N W0 (U.setCell ⟨g1, vx, none⟩ (.int .i64 (c' vx : Int))) (fun u => if u < vx + 1 then c' u else cc u) (fun u => if u < vx + 1 then p' u else p u)) := fun U hU => by
                    have q := hU.put1 hgg vx (c' vx)
                    rw [upto_step, upto_same ep] at q
                    exact q
                  have hg0 : ¬ (G : Int) = 0 := by omega
                  have hw1 : IntKind.i64.wrap ((Y : Int).tdiv (G : Int)) = ((Y / G : Nat) : Int) := by rw [tdiv_nat, IntKind.wrap_i64]; have hb := BYX.out.1; generalize Y / G = q at hb ⊢; omega
                  have mul1 : cc vx * (Y / G) ≤ 4096 * 262144 := Nat.mul_le_mul lcv BYX.out.1
                  have hw2 : IntKind.i64.wrap ((cc vx : Int) * ((Y / G : Nat) : Int)) = (c' vx : Int) := by rw [← Int.natCast_mul, IntKind.wrap_i64, ec]; omega
                  go_upto_region 21 with fail
                  have HY : Hid ((Y : Int) = (Y : Int)) := rfl
                  generalize hcz : ((cc vx : Nat) : Int) = cz at *
                  generalize hqz : ((Y / G : Nat) : Int) = qz at *
                  generalize hmz : ((c' vx : Nat) : Int) = mz at *
                  generalize hyz : ((Y : Nat) : Int) = yz at *
                  generalize hgz : ((G : Nat) : Int) = gz at *
                  clear hcz hqz hyz hgz k1 HY
                  have HMZ := hiddenN hmz
                  clear hmz
                  refine wp_region_said 11 (fun i u v => match i with
                      | 0 => v = .slice (some ⟨g1, 0, none⟩) N N
                      | 1 => v = .int .i64 (vx : Int)
                      | 2 => v = .slice (some ⟨g1, 0, none⟩) N N
                      | 3 => v = .int .i64 (vx : Int)
                      | 4 => v = .pointer (some ⟨g1, vx, none⟩)
                      | 5 => v = .int .i64 cz
                      | 6 => v = .int .i64 yz
                      | 7 => v = .int .i64 gz
                      | 8 => v = .int .i64 qz
                      | 9 => v = .int .i64 mz
                      | 10 => v = .pointer (some ⟨g1, vx, none⟩)
                      | _ => True) (by kernel_rfl) (by kernel_rfl) (by kernel_rfl) (by kernel_rfl) ?_ ?_ ?_
                  · intro i w v w' h hb
                    match i, h with
                    | 0, h => exact h
                    | 1, h => exact h
                    | 2, h => exact h
                    | 3, h => exact h
                    | 4, h => exact h
                    | 5, h => exact h
                    | 6, h => exact h
                    | 7, h => exact h
                    | 8, h => exact h
                    | 9, h => exact h
                    | 10, h => exact h
                    | _ + 11, _ => trivial
                  · intro i o ρ w' hi ho hb hc hf hfr hdep
                    match i, hi with
                    | 0, _ =>
                      simp only [gTA, gCZ, gSI] at ho
                      subst ho
                      have ts : ρ (.tmp 6) = .slice (some ⟨g1, 0, none⟩) N N := hfr 6 (by kernel_rfl)
                      simp [go_sem, ts]
                      exact ⟨Below.refl _ _, rfl⟩
                    | 1, _ =>
                      simp only [gTA, gCZ, gCS, gSI] at ho
                      subst ho
                      have ts : ρ (.tmp 16) = .int .i64 (vx : Int) := hfr 16 (by kernel_rfl)
                      simp [go_sem, ts]
                      exact ⟨Below.refl _ _, rfl⟩
                    | 2, _ =>
                      simp only [gTA, gCZ, gCS, gSI] at ho
                      subst ho
                      have ts : ρ (.tmp 6) = .slice (some ⟨g1, 0, none⟩) N N := hfr 6 (by kernel_rfl)
                      simp [go_sem, ts]
                      exact ⟨Below.refl _ _, rfl⟩
                    | 3, _ =>
                      simp only [gTA, gCZ, gCS, gSI] at ho
                      subst ho
                      have ts : ρ (.tmp 16) = .int .i64 (vx : Int) := hfr 16 (by kernel_rfl)
                      simp [go_sem, ts]
                      exact ⟨Below.refl _ _, rfl⟩
                    | 4, _ =>
                      simp only [gTA, gCZ, gCS, gSI] at ho
                      subst ho
                      have t0 : ρ (.tmp 95) = .slice (some ⟨g1, 0, none⟩) N N := hdep 2 95 (by kernel_rfl) (by kernel_rfl)
                      have t1 : ρ (.tmp 96) = .int .i64 (vx : Int) := hdep 3 96 (by kernel_rfl) (by kernel_rfl)
                      simp [go_sem, t0, t1, hvN]
                      exact ⟨Below.refl _ _, rfl⟩
                    | 5, _ =>
                      simp only [gTA, gCZ, gCS, gSI] at ho
                      subst ho
                      have ts : ρ (.tmp 97) = .pointer (some ⟨g1, vx, none⟩) := hdep 4 97 (by kernel_rfl) (by kernel_rfl)
                      have kc := cellN_later hb k0
                      simp [go_sem, ts, kc]
                      exact ⟨Below.refl _ _, rfl⟩
                    | 6, _ =>
                      simp only [gTA, gCZ, gCS, gSI] at ho
                      subst ho
                      have ts : ρ (.tmp 12) = .int .i64 yz := hfr 12 (by kernel_rfl)
                      simp [go_sem, ts]
                      exact ⟨Below.refl _ _, rfl⟩
                    | 7, _ =>
                      simp only [gTA, gCZ, gCS, gSI] at ho
                      subst ho
                      have ts : ρ (.tmp 13) = .int .i64 gz := hfr 13 (by kernel_rfl)
                      simp [go_sem, ts]
                      exact ⟨Below.refl _ _, rfl⟩
                    | 8, _ =>
                      simp only [gTA, gCZ, gCS, gSI] at ho
                      subst ho
                      have t0 : ρ (.tmp 99) = .int .i64 yz := hdep 6 99 (by kernel_rfl) (by kernel_rfl)
                      have t1 : ρ (.tmp 100) = .int .i64 gz := hdep 7 100 (by kernel_rfl) (by kernel_rfl)
                      simp [go_sem, t0, t1, hg0, hw1]
                      exact ⟨Below.refl _ _, rfl⟩
                    | 9, _ =>
                      simp only [gTA, gCZ, gCS, gSI] at ho
                      subst ho
                      have t0 : ρ (.tmp 98) = .int .i64 cz := hdep 5 98 (by kernel_rfl) (by kernel_rfl)
                      have t1 : ρ (.tmp 101) = .int .i64 qz := hdep 8 101 (by kernel_rfl) (by kernel_rfl)
                      simp [go_sem, t0, t1, hw2]
                      exact ⟨Below.refl _ _, rfl⟩
                    | 10, _ =>
                      simp only [gTA, gCZ, gCS, gSI] at ho
                      subst ho
                      have t0 : ρ (.tmp 93) = .slice (some ⟨g1, 0, none⟩) N N := hdep 0 93 (by kernel_rfl) (by kernel_rfl)
                      have t1 : ρ (.tmp 94) = .int .i64 (vx : Int) := hdep 1 94 (by kernel_rfl) (by kernel_rfl)
                      simp [go_sem, t0, t1, hvN]
                      exact ⟨Below.refl _ _, rfl⟩
                  · intro V w9 q9 hS
                    have e0 : V 0 = .slice (some ⟨g1, 0, none⟩) N N := hS 0 (by decide)
                    have e1 : V 1 = .int .i64 (vx : Int) := hS 1 (by decide)
                    have e2 : V 2 = .slice (some ⟨g1, 0, none⟩) N N := hS 2 (by decide)
                    have e3 : V 3 = .int .i64 (vx : Int) := hS 3 (by decide)
                    have e4 : V 4 = .pointer (some ⟨g1, vx, none⟩) := hS 4 (by decide)
                    have e5 : V 5 = .int .i64 cz := hS 5 (by decide)
                    have e6 : V 6 = .int .i64 yz := hS 6 (by decide)
                    have e7 : V 7 = .int .i64 gz := hS 7 (by decide)
                    have e8 : V 8 = .int .i64 qz := hS 8 (by decide)
                    have e9 : V 9 = .int .i64 mz := hS 9 (by decide)
                    have e10 : V 10 = .pointer (some ⟨g1, vx, none⟩) := hS 10 (by decide)
                    simp only [List.drop_succ_cons, List.drop_zero, List.take_succ_cons, List.take_zero, puts, e0, e1, e2, e3, e4, e5, e6, e7, e8, e9, e10]
                    simp only [Act.put, List.setIfInBounds_toArray, List.set_cons_zero, List.set_cons_succ]
                    clear hS e0 e1 e2 e3 e4 e5 e6 e7 e8 e9 e10
                    clear V
                    have T9 := hiddenN (TV.out.later q9)
                    have k9 := rowB_old T9.out.r hvN
                    have f9 := T9.out.r.fz vx
                    have TX := hiddenN (TN.out w9 T9.out)
                    clear q9 k0 TN T9
                    go_upto_region 25 with fail
                    clear k9 f9
                    generalize w9.setCell ⟨g1, vx, none⟩ (.int .i64 mz) = W10 at *
                    have k2 := rowB_old TX.out.r hvN
                    simp only [Nat.lt_succ_self, if_true, HMZ.out] at k2
                    by_cases hbig : 4096 < c' vx
                    · have BG := hiddenN (BIG.out vx hvN hbig)
                      have hgt : 4096 < mz := by rw [← HMZ.out]; omega
                      clear hbig BIG
                      go_wp2
                      rw [← HRE.out]
                      refine ⟨none, 0, 0, by rw [BG.out]; rfl, ?_, fun h => by rw [BG.out] at h; cases h⟩
                      rw [HNB.out]
                      exact LE.out _ TX.out.b
                    · have hgt : ¬ 4096 < mz := by rw [← HMZ.out]; omega
                      have LC2 : Hid (∀ u, u < vx + 1 → c' u ≤ 4096) := fun u hu => by
                        by_cases e : u = vx
                        · rw [e]; omega
                        · exact LC.out u (by omega)
                      clear hbig
                      go_wp2
                      go_roundg (N - (vx + 1))
                      case measure => omega
                      case rel => exact ⟨vx + 1, by omega, rfl, by go_num, TX.out, LC2.out⟩
                · by_cases htw : p vx = p t
                  · obtain ⟨ep, ec⟩ := dv2 hon htw
                    have hbe : ((p vx : Int) == (p f : Int)) = false := by simp; omega
                    have hbe2 : ((p vx : Int) == (p t : Int)) = true := by simp; omega
                    have TN : Hid (∀ U, TwoB nb g1 g2 N W0 U (fun u => if u < vx then c' u else cc u) (fun u => if u < vx then p' u else p u) → TwoB nb g1 g2 N W0 (U.setCell ⟨g1, vx, none⟩ (.int .i64 (c' vx : Int))) (fun u => if u < vx + 1 then c' u else cc u) (fun u => if u < vx then p' u else p u)) := fun U hU => by
                      have q := hU.put1 hgg vx (c' vx)
                      rw [upto_step] at q
                      exact q
                    have TP : Hid (∀ U, TwoB nb g1 g2 N W0 U (fun u => if u < vx + 1 then c' u else cc u) (fun u => if u < vx then p' u else p u) → TwoB nb g1 g2 N W0 (U.setCell ⟨g2, vx, none⟩ (.int .i64 (p f : Int))) (fun u => if u < vx + 1 then c' u else cc u) (fun u => if u < vx + 1 then p' u else p u)) := fun U hU => by
                      have q := hU.put2 hgg vx (p' vx)
                      rw [upto_step, ep] at q
                      exact q
                    have hg0 : ¬ (G : Int) = 0 := by omega
                    have hw1 : IntKind.i64.wrap ((X : Int).tdiv (G : Int)) = ((X / G : Nat) : Int) := by rw [tdiv_nat, IntKind.wrap_i64]; have hb := BYX.out.2; generalize X / G = q at hb ⊢; omega
                    have mul1 : cc vx * (X / G) ≤ 4096 * 262144 := Nat.mul_le_mul lcv BYX.out.2
                    have hw2 : IntKind.i64.wrap ((cc vx : Int) * ((X / G : Nat) : Int)) = (c' vx : Int) := by rw [← Int.natCast_mul, IntKind.wrap_i64, ec]; omega
                    go_upto_region 23 with fail
                    generalize hcz : ((cc vx : Nat) : Int) = cz at *
                    generalize hqz : ((X / G : Nat) : Int) = qz at *
                    generalize hmz : ((c' vx : Nat) : Int) = mz at *
                    generalize hyz : ((X : Nat) : Int) = yz at *
                    generalize hgz : ((G : Nat) : Int) = gz at *
                    clear hcz hqz hyz hgz k1
                    have HMZ := hiddenN hmz
                    clear hmz
                    refine wp_region_said 11 (fun i u v => match i with
                        | 0 => v = .slice (some ⟨g1, 0, none⟩) N N
                        | 1 => v = .int .i64 (vx : Int)
                        | 2 => v = .slice (some ⟨g1, 0, none⟩) N N
                        | 3 => v = .int .i64 (vx : Int)
                        | 4 => v = .pointer (some ⟨g1, vx, none⟩)
                        | 5 => v = .int .i64 cz
                        | 6 => v = .int .i64 yz
                        | 7 => v = .int .i64 gz
                        | 8 => v = .int .i64 qz
                        | 9 => v = .int .i64 mz
                        | 10 => v = .pointer (some ⟨g1, vx, none⟩)
                        | _ => True) (by kernel_rfl) (by kernel_rfl) (by kernel_rfl) (by kernel_rfl) ?_ ?_ ?_
                    · intro i w v w' h hb
                      match i, h with
                      | 0, h => exact h
                      | 1, h => exact h
                      | 2, h => exact h
                      | 3, h => exact h
                      | 4, h => exact h
                      | 5, h => exact h
                      | 6, h => exact h
                      | 7, h => exact h
                      | 8, h => exact h
                      | 9, h => exact h
                      | 10, h => exact h
                      | _ + 11, _ => trivial
                    · intro i o ρ w' hi ho hb hc hf hfr hdep
                      match i, hi with
                      | 0, _ =>
                        simp only [gTA, gCZ, gSI] at ho
                        subst ho
                        have ts : ρ (.tmp 6) = .slice (some ⟨g1, 0, none⟩) N N := hfr 6 (by kernel_rfl)
                        simp [go_sem, ts]
                        exact ⟨Below.refl _ _, rfl⟩
                      | 1, _ =>
                        simp only [gTA, gCZ, gCS, gSI] at ho
                        subst ho
                        have ts : ρ (.tmp 16) = .int .i64 (vx : Int) := hfr 16 (by kernel_rfl)
                        simp [go_sem, ts]
                        exact ⟨Below.refl _ _, rfl⟩
                      | 2, _ =>
                        simp only [gTA, gCZ, gCS, gSI] at ho
                        subst ho
                        have ts : ρ (.tmp 6) = .slice (some ⟨g1, 0, none⟩) N N := hfr 6 (by kernel_rfl)
                        simp [go_sem, ts]
                        exact ⟨Below.refl _ _, rfl⟩
                      | 3, _ =>
                        simp only [gTA, gCZ, gCS, gSI] at ho
                        subst ho
                        have ts : ρ (.tmp 16) = .int .i64 (vx : Int) := hfr 16 (by kernel_rfl)
                        simp [go_sem, ts]
                        exact ⟨Below.refl _ _, rfl⟩
                      | 4, _ =>
                        simp only [gTA, gCZ, gCS, gSI] at ho
                        subst ho
                        have t0 : ρ (.tmp 112) = .slice (some ⟨g1, 0, none⟩) N N := hdep 2 112 (by kernel_rfl) (by kernel_rfl)
                        have t1 : ρ (.tmp 113) = .int .i64 (vx : Int) := hdep 3 113 (by kernel_rfl) (by kernel_rfl)
                        simp [go_sem, t0, t1, hvN]
                        exact ⟨Below.refl _ _, rfl⟩
                      | 5, _ =>
                        simp only [gTA, gCZ, gCS, gSI] at ho
                        subst ho
                        have ts : ρ (.tmp 114) = .pointer (some ⟨g1, vx, none⟩) := hdep 4 114 (by kernel_rfl) (by kernel_rfl)
                        have kc := cellN_later hb k0
                        simp [go_sem, ts, kc]
                        exact ⟨Below.refl _ _, rfl⟩
                      | 6, _ =>
                        simp only [gTA, gCZ, gCS, gSI] at ho
                        subst ho
                        have ts : ρ (.tmp 11) = .int .i64 yz := hfr 11 (by kernel_rfl)
                        simp [go_sem, ts]
                        exact ⟨Below.refl _ _, rfl⟩
                      | 7, _ =>
                        simp only [gTA, gCZ, gCS, gSI] at ho
                        subst ho
                        have ts : ρ (.tmp 13) = .int .i64 gz := hfr 13 (by kernel_rfl)
                        simp [go_sem, ts]
                        exact ⟨Below.refl _ _, rfl⟩
                      | 8, _ =>
                        simp only [gTA, gCZ, gCS, gSI] at ho
                        subst ho
                        have t0 : ρ (.tmp 116) = .int .i64 yz := hdep 6 116 (by kernel_rfl) (by kernel_rfl)
                        have t1 : ρ (.tmp 117) = .int .i64 gz := hdep 7 117 (by kernel_rfl) (by kernel_rfl)
                        simp [go_sem, t0, t1, hg0, hw1]
                        exact ⟨Below.refl _ _, rfl⟩
                      | 9, _ =>
                        simp only [gTA, gCZ, gCS, gSI] at ho
                        subst ho
                        have t0 : ρ (.tmp 115) = .int .i64 cz := hdep 5 115 (by kernel_rfl) (by kernel_rfl)
                        have t1 : ρ (.tmp 118) = .int .i64 qz := hdep 8 118 (by kernel_rfl) (by kernel_rfl)
                        simp [go_sem, t0, t1, hw2]
                        exact ⟨Below.refl _ _, rfl⟩
                      | 10, _ =>
                        simp only [gTA, gCZ, gCS, gSI] at ho
                        subst ho
                        have t0 : ρ (.tmp 110) = .slice (some ⟨g1, 0, none⟩) N N := hdep 0 110 (by kernel_rfl) (by kernel_rfl)
                        have t1 : ρ (.tmp 111) = .int .i64 (vx : Int) := hdep 1 111 (by kernel_rfl) (by kernel_rfl)
                        simp [go_sem, t0, t1, hvN]
                        exact ⟨Below.refl _ _, rfl⟩
                    · intro V w9 q9 hS
                      have e0 : V 0 = .slice (some ⟨g1, 0, none⟩) N N := hS 0 (by decide)
                      have e1 : V 1 = .int .i64 (vx : Int) := hS 1 (by decide)
                      have e2 : V 2 = .slice (some ⟨g1, 0, none⟩) N N := hS 2 (by decide)
                      have e3 : V 3 = .int .i64 (vx : Int) := hS 3 (by decide)
                      have e4 : V 4 = .pointer (some ⟨g1, vx, none⟩) := hS 4 (by decide)
                      have e5 : V 5 = .int .i64 cz := hS 5 (by decide)
                      have e6 : V 6 = .int .i64 yz := hS 6 (by decide)
                      have e7 : V 7 = .int .i64 gz := hS 7 (by decide)
                      have e8 : V 8 = .int .i64 qz := hS 8 (by decide)
                      have e9 : V 9 = .int .i64 mz := hS 9 (by decide)
                      have e10 : V 10 = .pointer (some ⟨g1, vx, none⟩) := hS 10 (by decide)
                      simp only [List.drop_succ_cons, List.drop_zero, List.take_succ_cons, List.take_zero, puts, e0, e1, e2, e3, e4, e5, e6, e7, e8, e9, e10]
                      simp only [Act.put, List.setIfInBounds_toArray, List.set_cons_zero, List.set_cons_succ]
                      clear hS e0 e1 e2 e3 e4 e5 e6 e7 e8 e9 e10
                      clear V
                      have T9 := hiddenN (TV.out.later q9)
                      have k9 := rowB_old T9.out.r hvN
                      have f9 := T9.out.r.fz vx
                      have TX0 := hiddenN (TN.out w9 T9.out)
                      clear q9 k0 TN T9
                      go_upto_region 24 with fail
                      clear k9 f9
                      generalize w9.setCell ⟨g1, vx, none⟩ (.int .i64 mz) = W9 at *
                      have k9 := rowB_old TX0.out.q hvN
                      have f9 := TX0.out.q.fz vx
                      have TX := hiddenN (TP.out W9 TX0.out)
                      clear TP TX0
                      go_upto_region 25 with fail
                      clear k9 f9
                      generalize W9.setCell ⟨g2, vx, none⟩ (.int .i64 (p f : Int)) = W10 at *
                      have k2 := rowB_old TX.out.r hvN
                      simp only [Nat.lt_succ_self, if_true, HMZ.out] at k2
                      by_cases hbig : 4096 < c' vx
                      · have BG := hiddenN (BIG.out vx hvN hbig)
                        have hgt : 4096 < mz := by rw [← HMZ.out]; omega
                        clear hbig BIG
                        go_wp2
                        rw [← HRE.out]
                        refine ⟨none, 0, 0, by rw [BG.out]; rfl, ?_, fun h => by rw [BG.out] at h; cases h⟩
                        rw [HNB.out]
                        exact LE.out _ TX.out.b
                      · have hgt : ¬ 4096 < mz := by rw [← HMZ.out]; omega
                        have LC2 : Hid (∀ u, u < vx + 1 → c' u ≤ 4096) := fun u hu => by
                          by_cases e : u = vx
                          · rw [e]; omega
                          · exact LC.out u (by omega)
                        clear hbig
                        go_wp2
                        go_roundg (N - (vx + 1))
                        case measure => omega
                        case rel => exact ⟨vx + 1, by omega, rfl, by go_num, TX.out, LC2.out⟩
                  · obtain ⟨ep, ec⟩ := dv3 hon htw
                    have hbe : ((p vx : Int) == (p f : Int)) = false := by simp; omega
                    have hbe2 : ((p vx : Int) == (p t : Int)) = false := by simp; omega
                    have TX : Hid (TwoB nb g1 g2 N W0 wr (fun u => if u < vx + 1 then c' u else cc u) (fun u => if u < vx + 1 then p' u else p u)) := by
                      have q := TV.out
                      rw [upto_same ep, upto_same ec] at q
                      exact q
                    go_upto_region 25 with fail
                    obtain ⟨W10, hW10⟩ : ∃ q, wr = q := ⟨_, rfl⟩
                    obtain ⟨mz, hmz⟩ : ∃ q, ((c' vx : Nat) : Int) = q := ⟨_, rfl⟩
                    have HMZ := hiddenN hmz
                    rw [hW10] at TX ⊢
                    clear hW10 k0 k1 y0 TV hmz
                    have k2 := rowB_old TX.out.r hvN
                    simp only [Nat.lt_succ_self, if_true, HMZ.out] at k2
                    by_cases hbig : 4096 < c' vx
                    · have BG := hiddenN (BIG.out vx hvN hbig)
                      have hgt : 4096 < mz := by rw [← HMZ.out]; omega
                      clear hbig BIG
                      go_wp2
                      rw [← HRE.out]
                      refine ⟨none, 0, 0, by rw [BG.out]; rfl, ?_, fun h => by rw [BG.out] at h; cases h⟩
                      rw [HNB.out]
                      exact LE.out _ TX.out.b
                    · have hgt : ¬ 4096 < mz := by rw [← HMZ.out]; omega
                      have LC2 : Hid (∀ u, u < vx + 1 → c' u ≤ 4096) := fun u hu => by
                        by_cases e : u = vx
                        · rw [e]; omega
                        · exact LC.out u (by omega)
                      clear hbig
                      go_wp2
                      go_roundg (N - (vx + 1))
                      case measure => omega
                      case rel => exact ⟨vx + 1, by omega, rfl, by go_num, TX.out, LC2.out⟩
              · have hvI : ¬ (vx : Int) < (N : Int) := by omega
                have TF := hiddenN (TV.out.congr (c' := c') (p' := p') (fun v hv => by rw [if_pos (by omega)]) (fun v hv => by rw [if_pos (by omega)]))
                have LF : Hid (∀ v, v < N → c' v ≤ 4096) := fun v hv => LC.out v (by omega)
                clear DV
                go_wp2
                go_roundg (T.length - (ix + 1))
                case measure => omega
                case rel => exact ⟨ix + 1, p', by omega, rfl, by go_num, by rw [HC'.out]; exact TF.out, by rw [HR'.out]; exact PS.out, by rw [HC'.out]; exact LF.out⟩
        · have hki2 : ¬ (ix : Int) < (T.length : Int) := by omega
          have eT : T.take ix = T := List.take_of_length_le (by omega)
          rw [eT, CT.out.1] at TW LEQ
          have BN : Hid (bigN (cntB A A.length) N = false) := bigN_no.2 LEQ.out
          clear eT TS MO POS
          go_wp2
          rw [← HRE.out]
          refine ⟨some ⟨g1, 0, none⟩, N, N, by rw [BN.out]; rfl, ?_, fun _ => ⟨rfl, ?_⟩⟩
          · rw [HNB.out]; exact LE.out _ TW.out.b
          · rw [HNB.out]; exact TW.out.r
end Go.Proofs.Ytecmkienoofccaa

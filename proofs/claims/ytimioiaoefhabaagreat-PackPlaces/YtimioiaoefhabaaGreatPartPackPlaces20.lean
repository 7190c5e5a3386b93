/- Texts of one chain, laid one behind the other. -/
import Derived.Test.YtimioiaoefhabaaGreatPartPackPlaces16
import Derived.Test.YtimioiaoefhabaaGreatPartPackPlaces9
import Derived.Test.YtimioiaoefhabaaGreatPartPackPlaces5
import Derived.WalkSmall
namespace Go.Proofs.YtimioiaoefhabaaGreat
open Go.ChangeShapes Go.WideShapes Go.ChangeAt Go.RowKit
theorem Tryz.infoGn : (Tryz.prog.info? 47).map (fun i => (i.zero, i.size, i.bytes)) = some (some (.agg #[.int .i64 0, .int .i64 0]), 2, 16) := by kernel_rfl
theorem Tryz.infoPp : (Tryz.prog.info? 34).map (fun i => (i.zero, i.size, i.bytes)) = some (some (.agg #[.int .i64 0, .int .i64 0]), 2, 16) := by kernel_rfl
def rnV (x : Int × Int) : List Value := [.int .i64 x.1, .int .i64 x.2]
def celY (x : Int × Int) (j : Nat) : Value := if j = 0 then .int .i64 x.1 else .int .i64 x.2
def flatGn : List (Int × Int) → List Value
  | [] => []
  | x :: L => rnV x ++ flatGn L
theorem flatGn_len : ∀ (L : List (Int × Int)), (flatGn L).length = L.length * 2
  | [] => rfl
  | x :: L => by show (rnV x ++ flatGn L).length = _; rw [List.length_append, flatGn_len L, List.length_cons]; show 2 + _ = _; omega
theorem flatGn_append : ∀ (L M : List (Int × Int)), flatGn (L ++ M) = flatGn L ++ flatGn M
  | [], _ => rfl
  | x :: L, M => by show rnV x ++ flatGn (L ++ M) = rnV x ++ flatGn L ++ flatGn M; rw [flatGn_append L M, List.append_assoc]
theorem flatGn_get : ∀ {L : List (Int × Int)} {k j : Nat}, k < L.length → j < 2 → (flatGn L)[k * 2 + j]? = some (celY (nthX L k) j)
  | [], k, j, hk, _ => absurd hk (Nat.not_lt_zero _)
  | a :: L, 0, j, _, hj => by
    show (rnV a ++ flatGn L)[0 * 2 + j]? = _
    rw [Nat.zero_mul, Nat.zero_add, List.getElem?_append_left (by show j < 2; exact hj)]
    match j, hj with
    | 0, _ => rfl
    | 1, _ => rfl
  | a :: L, k + 1, j, hk, hj => by
    show (rnV a ++ flatGn L)[(k + 1) * 2 + j]? = _
    rw [List.getElem?_append_right (by show 2 ≤ _; omega)]
    have e : (k + 1) * 2 + j - (rnV a).length = k * 2 + j := by show (k + 1) * 2 + j - 2 = _; omega
    rw [e]
    exact flatGn_get (Nat.lt_of_succ_lt_succ hk) hj
/-- Steps as they lie. -/
def AtGn (w : World) (a : Option Addr) (L : List (Int × Int)) : Prop := L = [] ∨ ∃ b off, a = some ⟨b, off, none⟩ ∧ ∀ k, k < L.length → w.cell? ⟨b, off + k * 2, none⟩ = some (.int .i64 (nthX L k).1) ∧ w.cell? ⟨b, off + k * 2 + 1, none⟩ = some (.int .i64 (nthX L k).2)
theorem AtGn.below {w w' : World} {a : Option Addr} {L : List (Int × Int)} (h : AtGn w a L) (hb : Below w.heap.size w w') : AtGn w' a L := by
  rcases h with h | ⟨b, off, e, hc⟩
  · exact .inl h
  · exact .inr ⟨b, off, e, fun k hk => ⟨cellN_later hb (hc k hk).1, cellN_later hb (hc k hk).2⟩⟩
theorem AtGn.flat {w : World} {ad : Addr} {L : List (Int × Int)} (h : AtGn w (some ad) L) : ∀ j u, (flatGn L)[j]? = some u → w.cell? (ad.add j) = some u := by
  intro j u hu
  have hj : j < L.length * 2 := by rw [← flatGn_len]; exact (List.getElem?_eq_some_iff.1 hu).1
  rcases h with e | ⟨b, off, e, hc⟩
  · subst e; simp at hj
  · cases e
    have hk : j / 2 < L.length := by omega
    have e1 : j = j / 2 * 2 + j % 2 := by omega
    have hr : j % 2 < 2 := Nat.mod_lt _ (by decide)
    have h1 := flatGn_get (L := L) hk hr
    rw [← e1, hu] at h1
    cases h1
    obtain ⟨c0, c1⟩ := hc (j / 2) hk
    have ea : (⟨b, off, none⟩ : Addr).add j = ⟨b, off + j / 2 * 2 + j % 2, none⟩ := by
      have e2 : off + j / 2 * 2 + j % 2 = off + j := by omega
      rw [e2]
      simp [Addr.add]
    rw [ea]
    clear ea e1
    generalize j / 2 = k at *
    generalize j % 2 = r at *
    match r, hr with
    | 0, _ => exact c0
    | 1, _ => exact c1
/-- A row of those of a call's own, with room behind it. -/
def CapGn (B : Nat) (w : World) (a : Option Addr) (c : Nat) (L : List (Int × Int)) : Prop := w.ownsRow B 47 2 (.slice a L.length c) L.length (flatGn L)
theorem CapGn.nil (B : Nat) (w : World) : CapGn B w none 0 [] := World.ownsRow_nil _ _ _ _
theorem CapGn.at {B : Nat} {w : World} {a : Option Addr} {c : Nat} {L : List (Int × Int)} (h : CapGn B w a c L) : AtGn w a L := by
  unfold CapGn at h
  rcases h.2 with ⟨hv, hn⟩ | ⟨g, cap, cur, hv, hg, hh, hc, hm, hs, ht⟩
  · exact .inl (List.eq_nil_of_length_eq_zero hn)
  · cases hv
    refine .inr ⟨g, 0, rfl, fun k hk => ?_⟩
    have key : ∀ j, j < 2 → w.cell? ⟨g, k * 2 + j, none⟩ = some (celY (nthX L k) j) := fun j hj => by
      rw [h.cellAt (k * 2 + j) (by omega), flatGn_get hk hj]
    rw [Nat.zero_add]
    exact ⟨key 0 (by decide), key 1 (by decide)⟩
theorem CapGn.lt {B : Nat} {w : World} {a : Option Addr} {c : Nat} {L : List (Int × Int)} (h : CapGn B w a c L) : ∀ x, a = some x → B ≤ x.block ∧ x.block < w.heap.size := by
  intro x hx
  rcases h.2 with ⟨hv, hn⟩ | ⟨g, cap, cur, hv, hg, hh, hc, hm, hs, ht⟩
  · simp at hv; rw [hv.1] at hx; cases hx
  · cases hv
    cases hx
    exact ⟨hg, (Array.getElem?_eq_some_iff.1 hh).1⟩
theorem CapGn.none {B : Nat} {w : World} {a : Option Addr} {c : Nat} {L : List (Int × Int)} (h : CapGn B w a c L) : a = Option.none → L.length = 0 ∧ c = 0 := by
  intro e
  rcases h.2 with ⟨hv, hn⟩ | ⟨g, cap, cur, hv, hg, hh, hc, hm, hs, ht⟩
  · simp at hv; exact ⟨hn, hv.2.2⟩
  · subst e; cases hv
theorem CapGn.keep {B : Nat} {w w' : World} {a : Option Addr} {c : Nat} {L : List (Int × Int)} (h : CapGn B w a c L) (hk : ∀ x, a = some x → w'.heap[x.block]? = w.heap[x.block]?) : CapGn B w' a c L := by
  refine ⟨h.1, ?_⟩
  rcases h.2 with h2 | ⟨g, cap, cur, hv, hg, hh, r⟩
  · exact .inl h2
  · refine .inr ⟨g, cap, cur, hv, hg, ?_, r⟩
    cases hv
    rw [hk _ rfl]; exact hh
theorem CapGn.later {B : Nat} {w w' : World} {a : Option Addr} {c : Nat} {L : List (Int × Int)} (h : CapGn B w a c L) (hb : Below w.heap.size w w') : CapGn B w' a c L := h.keep fun x hx => hb.block _ (h.lt x hx).2
theorem CapGn.mono {B B' : Nat} {w : World} {a : Option Addr} {c : Nat} {L : List (Int × Int)} (h : CapGn B w a c L) (hB : B' ≤ B) : CapGn B' w a c L := by
  refine ⟨h.1, ?_⟩
  rcases h.2 with h2 | ⟨g, cap, cur, hv, hg, r⟩
  · exact .inl h2
  · exact .inr ⟨g, cap, cur, hv, Nat.le_trans hB hg, r⟩
/-- A row of regions has grown; all else stays. -/
structure GrwGn (B : Nat) (V : World) (d0 : Option Addr) (L : List (Int × Int)) (u : World) (d : Option Addr) (c : Nat) : Prop where
  own : CapGn B u d c L
  keep : ∀ k, k < V.heap.size → (∀ y, d0 = some y → y.block ≠ k) → u.heap[k]? = V.heap[k]?
  new : ∀ z, d = some z → d0 = some z ∨ V.heap.size ≤ z.block
  size : V.heap.size ≤ u.heap.size
  os : u.os = V.os
  tape : u.tape = V.tape
  output : u.output = V.output
theorem GrwGn.below {B Q : Nat} {V u : World} {d0 : Option Addr} {L : List (Int × Int)} {d : Option Addr} {c : Nat} (h : GrwGn B V d0 L u d c) (hQ : Q ≤ V.heap.size) (h0 : ∀ y, d0 = some y → Q ≤ y.block) : Below Q V u :=
  ⟨h.os, h.tape, h.output, h.size, fun k hk => h.keep k (by omega) (fun y hy => by have := h0 y hy; omega)⟩
theorem wpList_appGn {w : World} {ops : Array Oper} {rest : List Oper} {o : Oper} {a : Act} {Q : Exit → Act → World → Prop} (hgd : o.guard = none) (s x : Operand) (ho : o.op = .call { callee := .builtin .append, args := #[s, x], argTypes := #[39, 39] })
    (B : Nat) (d0 : Option Addr) (c0 : Nat) (zs : List (Int × Int)) (hs : a.eval s = .slice d0 zs.length c0) (hown : CapGn B w d0 c0 zs) (g : Nat) (i : Int × Int) (hx : a.eval x = .slice (some ⟨g, 0, none⟩) 1 1) (hc : w.cell? ⟨g, 0, none⟩ = some (.int .i64 i.1)) (hc2 : w.cell? ⟨g, 1, none⟩ = some (.int .i64 i.2)) (hn : zs.length ≤ 10000000) (hB : B ≤ w.heap.size)
    (h : ∀ d c' w', GrwGn B w d0 (zs ++ [i]) w' d c' → wpList Tryz.prog ops Q rest (a.put o.dst (.slice d (zs.length + 1) c')) w') : wpList Tryz.prog ops Q (o :: rest) a w := by
  obtain ⟨i1, hi1, hy0, hy1, hy2⟩ := info_parts Tryz.infoGn
  refine wpList_append_told (P := Tryz.prog) w hgd s x 39 ho B 47 i1 (.agg #[.int .i64 0, .int .i64 0]) 2 16 Tryz.underlying39 hi1 hy0 hy1 hy2 rfl (by decide) (.slice d0 zs.length c0) zs.length _ hs hown ⟨g, 0, none⟩ 1 1 (by decide) [.int .i64 i.1, .int .i64 i.2] hx rfl (fun j u hu => by
    match j, hu with
    | 0, hu =>
      simp at hu
      subst hu
      simpa [Addr.add] using hc
    | 1, hu =>
      simp at hu
      subst hu
      simpa [Addr.add] using hc2) (fun u hu => by simp at hu; rcases hu with rfl | rfl <;> rfl) (by unfold maxLen; omega) (by omega) hB ?_
  intro v' w' h2 h3
  have h2' : w'.ownsRow B 47 2 v' (zs ++ [i]).length (flatGn (zs ++ [i])) := by
    rw [flatGn_append, List.length_append]
    exact h2
  rcases h3 with ⟨g1, cap, e1, rfl, hg⟩ | ⟨cap, rfl, hg⟩
  · cases e1
    refine h _ _ w' ⟨by unfold CapGn; simpa using h2', fun k hk hne => ?_, fun z hz => .inl hz, hg.size, hg.os, hg.tape, hg.output⟩
    exact hg.block k hk (fun e => by cases e; exact hne _ rfl rfl)
  · refine h _ _ w' ⟨by unfold CapGn; simpa using h2', fun k hk hne => ?_, fun z hz => by cases hz; exact .inr (Nat.le_refl _), hg.size, hg.os, hg.tape, hg.output⟩
    exact hg.block k hk (fun e => by cases e)
theorem wpList_appGn1 {w : World} {ops : Array Oper} {rest : List Oper} {o : Oper} {a : Act} {Q : Exit → Act → World → Prop} (hgd : o.guard = none) (s x : Operand) (ho : o.op = .call { callee := .builtin .append, args := #[s, x], argTypes := #[39, 39] })
    (B : Nat) (d0 : Option Addr) (c0 : Nat) (zs : List (Int × Int)) (n : Nat) (hl : zs.length = n) (hs : a.eval s = .slice d0 n c0) (hown : CapGn B w d0 c0 zs) (g : Nat) (i : Int × Int) (hx : a.eval x = .slice (some ⟨g, 0, none⟩) 1 1) (hc : w.cell? ⟨g, 0, none⟩ = some (.int .i64 i.1)) (hc2 : w.cell? ⟨g, 1, none⟩ = some (.int .i64 i.2)) (hn : n ≤ 10000000) (hB : B ≤ w.heap.size)
    (h : ∀ d c' w', GrwGn B w d0 (zs ++ [i]) w' d c' → wpList Tryz.prog ops Q rest (a.put o.dst (.slice d (n + 1) c')) w') : wpList Tryz.prog ops Q (o :: rest) a w := by
  subst hl
  exact wpList_appGn hgd s x ho B d0 c0 zs hs hown g i hx hc hc2 hn hB h
def flatPp : List (Int × Int) → List Value
  | [] => []
  | x :: L => rnV x ++ flatPp L
theorem flatPp_len : ∀ (L : List (Int × Int)), (flatPp L).length = L.length * 2
  | [] => rfl
  | x :: L => by show (rnV x ++ flatPp L).length = _; rw [List.length_append, flatPp_len L, List.length_cons]; show 2 + _ = _; omega
theorem flatPp_append : ∀ (L M : List (Int × Int)), flatPp (L ++ M) = flatPp L ++ flatPp M
  | [], _ => rfl
  | x :: L, M => by show rnV x ++ flatPp (L ++ M) = rnV x ++ flatPp L ++ flatPp M; rw [flatPp_append L M, List.append_assoc]
theorem flatPp_get : ∀ {L : List (Int × Int)} {k j : Nat}, k < L.length → j < 2 → (flatPp L)[k * 2 + j]? = some (celY (nthX L k) j)
  | [], k, j, hk, _ => absurd hk (Nat.not_lt_zero _)
  | a :: L, 0, j, _, hj => by
    show (rnV a ++ flatPp L)[0 * 2 + j]? = _
    rw [Nat.zero_mul, Nat.zero_add, List.getElem?_append_left (by show j < 2; exact hj)]
    match j, hj with
    | 0, _ => rfl
    | 1, _ => rfl
  | a :: L, k + 1, j, hk, hj => by
    show (rnV a ++ flatPp L)[(k + 1) * 2 + j]? = _
    rw [List.getElem?_append_right (by show 2 ≤ _; omega)]
    have e : (k + 1) * 2 + j - (rnV a).length = k * 2 + j := by show (k + 1) * 2 + j - 2 = _; omega
    rw [e]
    exact flatPp_get (Nat.lt_of_succ_lt_succ hk) hj
/-- Steps as they lie. -/
def AtPp (w : World) (a : Option Addr) (L : List (Int × Int)) : Prop := L = [] ∨ ∃ b off, a = some ⟨b, off, none⟩ ∧ ∀ k, k < L.length → w.cell? ⟨b, off + k * 2, none⟩ = some (.int .i64 (nthX L k).1) ∧ w.cell? ⟨b, off + k * 2 + 1, none⟩ = some (.int .i64 (nthX L k).2)
theorem AtPp.below {w w' : World} {a : Option Addr} {L : List (Int × Int)} (h : AtPp w a L) (hb : Below w.heap.size w w') : AtPp w' a L := by
  rcases h with h | ⟨b, off, e, hc⟩
  · exact .inl h
  · exact .inr ⟨b, off, e, fun k hk => ⟨cellN_later hb (hc k hk).1, cellN_later hb (hc k hk).2⟩⟩
theorem AtPp.flat {w : World} {ad : Addr} {L : List (Int × Int)} (h : AtPp w (some ad) L) : ∀ j u, (flatPp L)[j]? = some u → w.cell? (ad.add j) = some u := by
  intro j u hu
  have hj : j < L.length * 2 := by rw [← flatPp_len]; exact (List.getElem?_eq_some_iff.1 hu).1
  rcases h with e | ⟨b, off, e, hc⟩
  · subst e; simp at hj
  · cases e
    have hk : j / 2 < L.length := by omega
    have e1 : j = j / 2 * 2 + j % 2 := by omega
    have hr : j % 2 < 2 := Nat.mod_lt _ (by decide)
    have h1 := flatPp_get (L := L) hk hr
    rw [← e1, hu] at h1
    cases h1
    obtain ⟨c0, c1⟩ := hc (j / 2) hk
    have ea : (⟨b, off, none⟩ : Addr).add j = ⟨b, off + j / 2 * 2 + j % 2, none⟩ := by
      have e2 : off + j / 2 * 2 + j % 2 = off + j := by omega
      rw [e2]
      simp [Addr.add]
    rw [ea]
    clear ea e1
    generalize j / 2 = k at *
    generalize j % 2 = r at *
    match r, hr with
    | 0, _ => exact c0
    | 1, _ => exact c1
/-- A row of those of a call's own, with room behind it. -/
def CapPp (B : Nat) (w : World) (a : Option Addr) (c : Nat) (L : List (Int × Int)) : Prop := w.ownsRow B 34 2 (.slice a L.length c) L.length (flatPp L)
theorem CapPp.nil (B : Nat) (w : World) : CapPp B w none 0 [] := World.ownsRow_nil _ _ _ _
theorem CapPp.at {B : Nat} {w : World} {a : Option Addr} {c : Nat} {L : List (Int × Int)} (h : CapPp B w a c L) : AtPp w a L := by
  unfold CapPp at h
  rcases h.2 with ⟨hv, hn⟩ | ⟨g, cap, cur, hv, hg, hh, hc, hm, hs, ht⟩
  · exact .inl (List.eq_nil_of_length_eq_zero hn)
  · cases hv
    refine .inr ⟨g, 0, rfl, fun k hk => ?_⟩
    have key : ∀ j, j < 2 → w.cell? ⟨g, k * 2 + j, none⟩ = some (celY (nthX L k) j) := fun j hj => by
      rw [h.cellAt (k * 2 + j) (by omega), flatPp_get hk hj]
    rw [Nat.zero_add]
    exact ⟨key 0 (by decide), key 1 (by decide)⟩
theorem CapPp.lt {B : Nat} {w : World} {a : Option Addr} {c : Nat} {L : List (Int × Int)} (h : CapPp B w a c L) : ∀ x, a = some x → B ≤ x.block ∧ x.block < w.heap.size := by
  intro x hx
  rcases h.2 with ⟨hv, hn⟩ | ⟨g, cap, cur, hv, hg, hh, hc, hm, hs, ht⟩
  · simp at hv; rw [hv.1] at hx; cases hx
  · cases hv
    cases hx
    exact ⟨hg, (Array.getElem?_eq_some_iff.1 hh).1⟩
theorem CapPp.none {B : Nat} {w : World} {a : Option Addr} {c : Nat} {L : List (Int × Int)} (h : CapPp B w a c L) : a = Option.none → L.length = 0 ∧ c = 0 := by
  intro e
  rcases h.2 with ⟨hv, hn⟩ | ⟨g, cap, cur, hv, hg, hh, hc, hm, hs, ht⟩
  · simp at hv; exact ⟨hn, hv.2.2⟩
  · subst e; cases hv
theorem CapPp.keep {B : Nat} {w w' : World} {a : Option Addr} {c : Nat} {L : List (Int × Int)} (h : CapPp B w a c L) (hk : ∀ x, a = some x → w'.heap[x.block]? = w.heap[x.block]?) : CapPp B w' a c L := by
  refine ⟨h.1, ?_⟩
  rcases h.2 with h2 | ⟨g, cap, cur, hv, hg, hh, r⟩
  · exact .inl h2
  · refine .inr ⟨g, cap, cur, hv, hg, ?_, r⟩
    cases hv
    rw [hk _ rfl]; exact hh
theorem CapPp.later {B : Nat} {w w' : World} {a : Option Addr} {c : Nat} {L : List (Int × Int)} (h : CapPp B w a c L) (hb : Below w.heap.size w w') : CapPp B w' a c L := h.keep fun x hx => hb.block _ (h.lt x hx).2
theorem CapPp.mono {B B' : Nat} {w : World} {a : Option Addr} {c : Nat} {L : List (Int × Int)} (h : CapPp B w a c L) (hB : B' ≤ B) : CapPp B' w a c L := by
  refine ⟨h.1, ?_⟩
  rcases h.2 with h2 | ⟨g, cap, cur, hv, hg, r⟩
  · exact .inl h2
  · exact .inr ⟨g, cap, cur, hv, Nat.le_trans hB hg, r⟩
/-- A row of pairs has grown; all else stays. -/
structure GrwPp (B : Nat) (V : World) (d0 : Option Addr) (L : List (Int × Int)) (u : World) (d : Option Addr) (c : Nat) : Prop where
  own : CapPp B u d c L
  keep : ∀ k, k < V.heap.size → (∀ y, d0 = some y → y.block ≠ k) → u.heap[k]? = V.heap[k]?
  new : ∀ z, d = some z → d0 = some z ∨ V.heap.size ≤ z.block
  size : V.heap.size ≤ u.heap.size
  os : u.os = V.os
  tape : u.tape = V.tape
  output : u.output = V.output
theorem GrwPp.below {B Q : Nat} {V u : World} {d0 : Option Addr} {L : List (Int × Int)} {d : Option Addr} {c : Nat} (h : GrwPp B V d0 L u d c) (hQ : Q ≤ V.heap.size) (h0 : ∀ y, d0 = some y → Q ≤ y.block) : Below Q V u :=
  ⟨h.os, h.tape, h.output, h.size, fun k hk => h.keep k (by omega) (fun y hy => by have := h0 y hy; omega)⟩
theorem wpList_appPp {w : World} {ops : Array Oper} {rest : List Oper} {o : Oper} {a : Act} {Q : Exit → Act → World → Prop} (hgd : o.guard = none) (s x : Operand) (ho : o.op = .call { callee := .builtin .append, args := #[s, x], argTypes := #[28, 28] })
    (B : Nat) (d0 : Option Addr) (c0 : Nat) (zs : List (Int × Int)) (hs : a.eval s = .slice d0 zs.length c0) (hown : CapPp B w d0 c0 zs) (g : Nat) (i : Int × Int) (hx : a.eval x = .slice (some ⟨g, 0, none⟩) 1 1) (hc : w.cell? ⟨g, 0, none⟩ = some (.int .i64 i.1)) (hc2 : w.cell? ⟨g, 1, none⟩ = some (.int .i64 i.2)) (hn : zs.length ≤ 10000000) (hB : B ≤ w.heap.size)
    (h : ∀ d c' w', GrwPp B w d0 (zs ++ [i]) w' d c' → wpList Tryz.prog ops Q rest (a.put o.dst (.slice d (zs.length + 1) c')) w') : wpList Tryz.prog ops Q (o :: rest) a w := by
  obtain ⟨i1, hi1, hy0, hy1, hy2⟩ := info_parts Tryz.infoPp
  refine wpList_append_told (P := Tryz.prog) w hgd s x 28 ho B 34 i1 (.agg #[.int .i64 0, .int .i64 0]) 2 16 Tryz.underlying28 hi1 hy0 hy1 hy2 rfl (by decide) (.slice d0 zs.length c0) zs.length _ hs hown ⟨g, 0, none⟩ 1 1 (by decide) [.int .i64 i.1, .int .i64 i.2] hx rfl (fun j u hu => by
    match j, hu with
    | 0, hu =>
      simp at hu
      subst hu
      simpa [Addr.add] using hc
    | 1, hu =>
      simp at hu
      subst hu
      simpa [Addr.add] using hc2) (fun u hu => by simp at hu; rcases hu with rfl | rfl <;> rfl) (by unfold maxLen; omega) (by omega) hB ?_
  intro v' w' h2 h3
  have h2' : w'.ownsRow B 34 2 v' (zs ++ [i]).length (flatPp (zs ++ [i])) := by
    rw [flatPp_append, List.length_append]
    exact h2
  rcases h3 with ⟨g1, cap, e1, rfl, hg⟩ | ⟨cap, rfl, hg⟩
  · cases e1
    refine h _ _ w' ⟨by unfold CapPp; simpa using h2', fun k hk hne => ?_, fun z hz => .inl hz, hg.size, hg.os, hg.tape, hg.output⟩
    exact hg.block k hk (fun e => by cases e; exact hne _ rfl rfl)
  · refine h _ _ w' ⟨by unfold CapPp; simpa using h2', fun k hk hne => ?_, fun z hz => by cases hz; exact .inr (Nat.le_refl _), hg.size, hg.os, hg.tape, hg.output⟩
    exact hg.block k hk (fun e => by cases e)
theorem wpList_appPp1 {w : World} {ops : Array Oper} {rest : List Oper} {o : Oper} {a : Act} {Q : Exit → Act → World → Prop} (hgd : o.guard = none) (s x : Operand) (ho : o.op = .call { callee := .builtin .append, args := #[s, x], argTypes := #[28, 28] })
    (B : Nat) (d0 : Option Addr) (c0 : Nat) (zs : List (Int × Int)) (n : Nat) (hl : zs.length = n) (hs : a.eval s = .slice d0 n c0) (hown : CapPp B w d0 c0 zs) (g : Nat) (i : Int × Int) (hx : a.eval x = .slice (some ⟨g, 0, none⟩) 1 1) (hc : w.cell? ⟨g, 0, none⟩ = some (.int .i64 i.1)) (hc2 : w.cell? ⟨g, 1, none⟩ = some (.int .i64 i.2)) (hn : n ≤ 10000000) (hB : B ≤ w.heap.size)
    (h : ∀ d c' w', GrwPp B w d0 (zs ++ [i]) w' d c' → wpList Tryz.prog ops Q rest (a.put o.dst (.slice d (n + 1) c')) w') : wpList Tryz.prog ops Q (o :: rest) a w := by
  subst hl
  exact wpList_appPp hgd s x ho B d0 c0 zs hs hown g i hx hc hc2 hn hB h
end Go.Proofs.YtimioiaoefhabaaGreat

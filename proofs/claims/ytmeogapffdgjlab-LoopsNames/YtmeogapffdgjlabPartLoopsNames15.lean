/- Texts of one chain, laid one behind the other. -/
import Derived.Test.YtmeogapffdgjlabPartLoopsNames14
import Derived.WalkSmall
namespace Go.Proofs.Ytmeogapffdgjlab
open Go.ChangeShapes Go.WideShapes Go.ChangeAt Go.RowKit
/-- A loop as its three cells lie. -/
structure Lv where
  t : Int
  n : Int
  a : Option Addr
  k : Nat
  c : Nat
def lvV (x : Lv) : List Value := [.int .i64 x.t, .int .i64 x.n, .slice x.a x.k x.c]
def flatZ : List Lv → List Value
  | [] => []
  | x :: L => lvV x ++ flatZ L
def nthZ (L : List Lv) (k : Nat) : Lv := L.getD k ⟨0, 0, none, 0, 0⟩
def celZ (x : Lv) (j : Nat) : Value := if j = 0 then .int .i64 x.t else if j = 1 then .int .i64 x.n else .slice x.a x.k x.c
theorem flatZ_len : ∀ (L : List Lv), (flatZ L).length = L.length * 3
  | [] => rfl
  | x :: L => by show (lvV x ++ flatZ L).length = _; rw [List.length_append, flatZ_len L, List.length_cons]; show 3 + _ = _; omega
theorem flatZ_append : ∀ (L M : List Lv), flatZ (L ++ M) = flatZ L ++ flatZ M
  | [], _ => rfl
  | x :: L, M => by show lvV x ++ flatZ (L ++ M) = lvV x ++ flatZ L ++ flatZ M; rw [flatZ_append L M, List.append_assoc]
theorem flatZ_get : ∀ {L : List Lv} {k j : Nat}, k < L.length → j < 3 → (flatZ L)[k * 3 + j]? = some (celZ (nthZ L k) j)
  | [], k, j, hk, _ => absurd hk (Nat.not_lt_zero _)
  | a :: L, 0, j, _, hj => by
    show (lvV a ++ flatZ L)[0 * 3 + j]? = _
    rw [Nat.zero_mul, Nat.zero_add, List.getElem?_append_left (by show j < 3; exact hj)]
    match j, hj with
    | 0, _ => rfl
    | 1, _ => rfl
    | 2, _ => rfl
  | a :: L, k + 1, j, hk, hj => by
    show (lvV a ++ flatZ L)[(k + 1) * 3 + j]? = _
    rw [List.getElem?_append_right (by show 3 ≤ _; omega)]
    have e : (k + 1) * 3 + j - (lvV a).length = k * 3 + j := by show (k + 1) * 3 + j - 3 = _; omega
    rw [e]
    exact flatZ_get (Nat.lt_of_succ_lt_succ hk) hj
theorem flatZ_one (L : List Lv) : ∀ u ∈ flatZ L, u.oneCell' = true := by
  induction L with
  | nil => intro u hu; cases hu
  | cons a L ih =>
    intro u hu
    rcases List.mem_append.1 (show u ∈ lvV a ++ flatZ L from hu) with h | h
    · simp [lvV] at h
      rcases h with rfl | rfl | rfl <;> rfl
    · exact ih u h
/-- A row of loops of a call's own, with room behind it. -/
def CapZ (B : Nat) (w : World) (a : Option Addr) (c : Nat) (L : List Lv) : Prop := w.ownsRow B 29 3 (.slice a L.length c) L.length (flatZ L)
theorem CapZ.nil (B : Nat) (w : World) : CapZ B w none 0 [] := World.ownsRow_nil _ _ _ _
theorem CapZ.cell {B : Nat} {w : World} {g c : Nat} {L : List Lv} (h : CapZ B w (some ⟨g, 0, none⟩) c L) {k j : Nat} (hk : k < L.length) (hj : j < 3) : w.cell? ⟨g, k * 3 + j, none⟩ = some (celZ (nthZ L k) j) := by
  rw [World.ownsRow.cellAt h (k * 3 + j) (by omega), flatZ_get hk hj]
theorem CapZ.there {B : Nat} {w : World} {a : Option Addr} {c : Nat} {L : List Lv} (h : CapZ B w a c L) (h0 : L ≠ []) : ∃ g, a = some ⟨g, 0, none⟩ := by
  rcases h.2 with ⟨hv, hn⟩ | ⟨g, cap, cur, hv, hg, hh, hc, hm, hs, ht⟩
  · exact absurd (List.eq_nil_of_length_eq_zero hn) h0
  · cases hv; exact ⟨g, rfl⟩
theorem CapZ.lt {B : Nat} {w : World} {a : Option Addr} {c : Nat} {L : List Lv} (h : CapZ B w a c L) : ∀ x, a = some x → B ≤ x.block ∧ x.block < w.heap.size := by
  intro x hx
  rcases h.2 with ⟨hv, hn⟩ | ⟨g, cap, cur, hv, hg, hh, hc, hm, hs, ht⟩
  · simp at hv; rw [hv.1] at hx; cases hx
  · cases hv
    cases hx
    exact ⟨hg, (Array.getElem?_eq_some_iff.1 hh).1⟩
theorem CapZ.keep {B : Nat} {w w' : World} {a : Option Addr} {c : Nat} {L : List Lv} (h : CapZ B w a c L) (hk : ∀ x, a = some x → w'.heap[x.block]? = w.heap[x.block]?) : CapZ B w' a c L := by
  refine ⟨h.1, ?_⟩
  rcases h.2 with h2 | ⟨g, cap, cur, hv, hg, hh, r⟩
  · exact .inl h2
  · refine .inr ⟨g, cap, cur, hv, hg, ?_, r⟩
    cases hv
    rw [hk _ rfl]; exact hh
theorem CapZ.later {B : Nat} {w w' : World} {a : Option Addr} {c : Nat} {L : List Lv} (h : CapZ B w a c L) (hb : Below w.heap.size w w') : CapZ B w' a c L := h.keep fun x hx => hb.block _ (h.lt x hx).2
theorem CapZ.room {B : Nat} {w : World} {a : Option Addr} {c : Nat} {L : List Lv} (h : CapZ B w a c L) : L.length ≤ c := by
  rcases h.2 with ⟨hv, hn⟩ | ⟨g, cap, cur, hv, hg, hh, hc, hm, r⟩
  · simp at hv; omega
  · cases hv; exact hc
theorem Try.infoLoop : (Try.prog.info? 29).map (fun i => (i.zero, i.size, i.bytes)) = some (some (.agg #[.int .i64 0, .int .i64 0, .slice none 0 0]), 3, 40) := by kernel_rfl
/-- A row that has grown; all else is as it was. -/
structure GrwZ (B : Nat) (V : World) (d0 : Option Addr) (L : List Lv) (u : World) (d : Option Addr) (c : Nat) : Prop where
  own : CapZ B u d c L
  keep : ∀ k, k < V.heap.size → (∀ y, d0 = some y → y.block ≠ k) → u.heap[k]? = V.heap[k]?
  new : ∀ z, d = some z → d0 = some z ∨ V.heap.size ≤ z.block
  size : V.heap.size ≤ u.heap.size
  os : u.os = V.os
  tape : u.tape = V.tape
  output : u.output = V.output
theorem GrwZ.below {B : Nat} {V u : World} {d0 d : Option Addr} {L : List Lv} {c : Nat} (h : GrwZ B V d0 L u d c) (h0 : ∀ y, d0 = some y → B ≤ y.block) (hB : B ≤ V.heap.size) : Below B V u :=
  ⟨h.os, h.tape, h.output, h.size, fun k hk => h.keep k (Nat.lt_of_lt_of_le hk hB) fun y hy e => by have := h0 y hy; omega⟩
theorem wpList_appZ {w : World} {ops : Array Oper} {rest : List Oper} {o : Oper} {a : Act} {Q : Exit → Act → World → Prop} (hgd : o.guard = none) (s x : Operand) (ho : o.op = .call { callee := .builtin .append, args := #[s, x], argTypes := #[23, 23] })
    (B : Nat) (d0 : Option Addr) (c0 : Nat) (zs : List Lv) (n : Nat) (hn : zs.length = n) (hs : a.eval s = .slice d0 n c0) (hown : CapZ B w d0 c0 zs) (g : Nat) (y : Lv) (hx : a.eval x = .slice (some ⟨g, 0, none⟩) 1 1) (h0 : w.cell? ⟨g, 0, none⟩ = some (.int .i64 y.t)) (h1 : w.cell? ⟨g, 1, none⟩ = some (.int .i64 y.n)) (h2 : w.cell? ⟨g, 2, none⟩ = some (.slice y.a y.k y.c)) (hb : n ≤ 10000000) (hB : B ≤ w.heap.size)
    (h : ∀ d c' w', GrwZ B w d0 (zs ++ [y]) w' d c' → wpList Try.prog ops Q rest (a.put o.dst (.slice d (n + 1) c')) w') : wpList Try.prog ops Q (o :: rest) a w := by
  subst hn
  obtain ⟨i0, hi, hz0, hz1, hz2⟩ := info_parts Try.infoLoop
  refine wpList_append_told w hgd s x 23 ho B 29 i0 _ 3 40 Try.underlying23 hi hz0 hz1 hz2 rfl (by decide) _ zs.length (flatZ zs) hs hown ⟨g, 0, none⟩ 1 1 (by decide) (lvV y) hx rfl (fun j u hu => ?_) (fun u hu => ?_) (by unfold maxLen; omega) (by omega) hB ?_
  · match j, hu with
    | 0, hu => cases hu; simpa [Addr.add] using h0
    | 1, hu => cases hu; simpa [Addr.add] using h1
    | 2, hu => cases hu; simpa [Addr.add] using h2
  · exact flatZ_one [y] u (by rw [show flatZ [y] = lvV y ++ [] from rfl, List.append_nil]; exact hu)
  intro v' w' hown1 hgrow
  have hown' : w'.ownsRow B 29 3 v' (zs ++ [y]).length (flatZ (zs ++ [y])) := by
    rw [flatZ_append, List.length_append]
    exact (show flatZ [y] = lvV y by rw [show flatZ [y] = lvV y ++ [] from rfl, List.append_nil]) ▸ hown1
  rcases hgrow with ⟨g1, cap, e1, rfl, hg⟩ | ⟨cap, rfl, hg⟩
  · cases e1
    refine h _ _ w' ⟨by unfold CapZ; simpa using hown', fun k hk hne => hg.block k hk (fun e => by cases e; exact hne _ rfl rfl), fun z hz => .inl hz, hg.size, hg.os, hg.tape, hg.output⟩
  · refine h _ _ w' ⟨by unfold CapZ; simpa using hown', fun k hk hne => hg.block k hk (fun e => by cases e), fun z hz => by cases hz; exact .inr (Nat.le_refl _), hg.size, hg.os, hg.tape, hg.output⟩
/-- Rows and the nests that they are. -/
def MchZ (F : Nat → Prop) (m : Bool) (w : World) : List Lv → List Lp → Prop
  | [], [] => True
  | s :: S, x :: l => (s.t = x.times ∧ s.n = x.node ∧ s.k = x.body.length ∧ (x.body = [] ∨ ∃ b o, s.a = some ⟨b, o, none⟩ ∧ (m = true → x.body.length + 1 ≤ s.c) ∧ NstR F m w b o x.body)) ∧ MchZ F m w S l
  | [], _ :: _ => False
  | _ :: _, [] => False
theorem MchZ.len {F : Nat → Prop} {m : Bool} {w : World} : ∀ {S : List Lv} {l : List Lp}, MchZ F m w S l → S.length = l.length
  | [], [], _ => rfl
  | _ :: _, _ :: _, h => by rw [List.length_cons, List.length_cons, MchZ.len h.2]
  | [], _ :: _, h => h.elim
  | _ :: _, [], h => h.elim
theorem MchZ.keep {F : Nat → Prop} {m : Bool} {w w' : World} (hk : ∀ k, F k → w'.heap[k]? = w.heap[k]?) : ∀ {S : List Lv} {l : List Lp}, MchZ F m w S l → MchZ F m w' S l
  | [], [], _ => trivial
  | _ :: _, _ :: _, ⟨⟨h1, h2, h3, h4⟩, h5⟩ => ⟨⟨h1, h2, h3, h4.imp id fun ⟨b, o, e, q, h⟩ => ⟨b, o, e, q, NstR.keep hk _ _ _ h⟩⟩, MchZ.keep hk h5⟩
  | [], _ :: _, h => h.elim
  | _ :: _, [], h => h.elim
theorem MchZ.mono {F G : Nat → Prop} {m : Bool} {w : World} (hk : ∀ k, F k → G k) : ∀ {S : List Lv} {l : List Lp}, MchZ F m w S l → MchZ G m w S l
  | [], [], _ => trivial
  | _ :: _, _ :: _, ⟨⟨h1, h2, h3, h4⟩, h5⟩ => ⟨⟨h1, h2, h3, h4.imp id fun ⟨b, o, e, q, h⟩ => ⟨b, o, e, q, NstR.mono hk _ _ _ h⟩⟩, MchZ.mono hk h5⟩
  | [], _ :: _, h => h.elim
  | _ :: _, [], h => h.elim
theorem MchZ.snoc {F : Nat → Prop} {m : Bool} {w : World} {s : Lv} {x : Lp} (hx : s.t = x.times ∧ s.n = x.node ∧ s.k = x.body.length ∧ (x.body = [] ∨ ∃ b o, s.a = some ⟨b, o, none⟩ ∧ (m = true → x.body.length + 1 ≤ s.c) ∧ NstR F m w b o x.body)) : ∀ {S : List Lv} {l : List Lp}, MchZ F m w S l → MchZ F m w (S ++ [s]) (l ++ [x])
  | [], [], _ => ⟨hx, trivial⟩
  | _ :: _, _ :: _, ⟨h1, h2⟩ => ⟨h1, MchZ.snoc hx h2⟩
  | [], _ :: _, h => h.elim
  | _ :: _, [], h => h.elim
theorem MchZ.append {F : Nat → Prop} {m : Bool} {w : World} : ∀ {S T : List Lv} {l r : List Lp}, MchZ F m w S l → MchZ F m w T r → MchZ F m w (S ++ T) (l ++ r)
  | [], _, [], _, _, h => h
  | _ :: _, _, _ :: _, _, ⟨h1, h2⟩, h => ⟨h1, MchZ.append h2 h⟩
  | [], _, _ :: _, _, h, _ => h.elim
  | _ :: _, _, [], _, h, _ => h.elim
theorem nst_of_row {F : Nat → Prop} {m : Bool} {w : World} {b : Nat} (hF : F b) : ∀ {S : List Lv} {l : List Lp} {o : Nat}, MchZ F m w S l → (∀ k, k < S.length → ∀ j, j < 3 → w.cell? ⟨b, o + k * 3 + j, none⟩ = some (celZ (nthZ S k) j)) → (m = true → w.cell? ⟨b, o + S.length * 3, none⟩ = some (.int .i64 (-7770777))) → NstR F m w b o l
  | [], [], o, _, _, h3 => by rw [nst_nil]; exact fun e => ⟨hF, by have := h3 e; simpa using this⟩
  | s :: S, x :: l, o, ⟨⟨h1, h2, h3, h4⟩, h5⟩, hc, hm => by
    rw [nst_cons]
    have c0 := hc 0 (Nat.succ_pos _) 0 (by decide)
    have c1 := hc 0 (Nat.succ_pos _) 1 (by decide)
    have c2 := hc 0 (Nat.succ_pos _) 2 (by decide)
    rw [show o + 0 * 3 + 0 = o by omega, show celZ (nthZ (s :: S) 0) 0 = .int .i64 s.t from rfl, h1] at c0
    rw [show o + 0 * 3 + 1 = o + 1 by omega, show celZ (nthZ (s :: S) 0) 1 = .int .i64 s.n from rfl, h2] at c1
    rw [show o + 0 * 3 + 2 = o + 2 by omega, show celZ (nthZ (s :: S) 0) 2 = .slice s.a s.k s.c from rfl, h3] at c2
    refine ⟨hF, c0, c1, ⟨s.a, s.c, c2, h4⟩, nst_of_row hF h5 (fun k hk j hj => ?_) (fun e => ?_)⟩
    · have := hc (k + 1) (Nat.succ_lt_succ hk) j hj
      rw [show o + (k + 1) * 3 + j = o + 3 + k * 3 + j by omega] at this
      simpa [nthZ] using this
    · have := hm e
      rw [List.length_cons, show o + (S.length + 1) * 3 = o + 3 + S.length * 3 by omega] at this
      exact this
  | [], _ :: _, _, h, _, _ => h.elim
  | _ :: _, [], _, h, _, _ => h.elim
theorem nthZ_rep (n k : Nat) : nthZ (List.replicate n ⟨0, 0, none, 0, 0⟩) k = ⟨0, 0, none, 0, 0⟩ := by
  unfold nthZ
  rw [List.getD_eq_getElem?_getD, List.getElem?_replicate]
  split <;> rfl
theorem madeZ (n : Nat) : (madeCells #[.int .i64 0, .int .i64 0, .slice none 0 0] (n * 3)).toList = flatZ (List.replicate n ⟨0, 0, none, 0, 0⟩) := by
  apply List.ext_getElem?
  intro j
  by_cases hj : j < n * 3
  · have hk : j / 3 < (List.replicate n (⟨0, 0, none, 0, 0⟩ : Lv)).length := by rw [List.length_replicate]; omega
    have hr : j % 3 < 3 := Nat.mod_lt _ (by decide)
    have h1 := flatZ_get (L := List.replicate n ⟨0, 0, none, 0, 0⟩) hk hr
    rw [show j / 3 * 3 + j % 3 = j by omega, nthZ_rep] at h1
    rw [h1]
    have h2 : (madeCells #[.int .i64 0, .int .i64 0, .slice none 0 0] (n * 3)).toList[j]? = some (#[Value.int .i64 0, .int .i64 0, .slice none 0 0][j % 3]!) := by simp [madeCells, hj]
    rw [h2]
    generalize j % 3 = r at *
    match r, hr with
    | 0, _ => rfl
    | 1, _ => rfl
    | 2, _ => rfl
  · rw [List.getElem?_eq_none (by rw [Array.length_toList, size_madeCells]; omega), List.getElem?_eq_none (by rw [flatZ_len, List.length_replicate]; omega)]
theorem flatZ_set : ∀ (S : List Lv) (s : Lv) (T : List Lv) (y : Lv), (((flatZ (S ++ y :: T)).set (S.length * 3) (.int .i64 s.t)).set (S.length * 3 + 1) (.int .i64 s.n)).set (S.length * 3 + 2) (.slice s.a s.k s.c) = flatZ (S ++ s :: T)
  | [], s, T, y => rfl
  | x :: S, s, T, y => by
    show (((lvV x ++ flatZ (S ++ y :: T)).set _ _).set _ _).set _ _ = lvV x ++ flatZ (S ++ s :: T)
    rw [← flatZ_set S s T y]
    have e : (lvV x).length = 3 := rfl
    rw [List.length_cons, List.set_append_right _ _ (by rw [e]; omega), List.set_append_right _ _ (by rw [e]; omega), List.set_append_right _ _ (by rw [e]; omega), e]
    rw [show (S.length + 1) * 3 - 3 = S.length * 3 by omega, show (S.length + 1) * 3 + 1 - 3 = S.length * 3 + 1 by omega, show (S.length + 1) * 3 + 2 - 3 = S.length * 3 + 2 by omega]
/-- A row, or a box, of loops. -/
def TyZ (w : World) (k : Nat) : Prop := ∃ cs, BlkA 29 k w cs
theorem TyZ.lt {w : World} {k : Nat} (h : TyZ w k) : k < w.heap.size := by obtain ⟨cs, h⟩ := h; exact h.lt
theorem TyZ.keep {w w' : World} {k : Nat} (h : TyZ w k) (hb : w'.heap[k]? = w.heap[k]?) : TyZ w' k := by obtain ⟨cs, h⟩ := h; exact ⟨cs, h.keep hb⟩
theorem CapZ.ty {B : Nat} {w : World} {g c : Nat} {L : List Lv} (h : CapZ B w (some ⟨g, 0, none⟩) c L) : TyZ w g := by
  rcases h.2 with ⟨hv, -⟩ | ⟨g', cap, cur, hv, hg, hh, r⟩
  · cases hv
  · cases hv; exact ⟨cur, hh⟩
/-- What copied gives. -/
structure CpdZ (B : Nat) (w : World) (q : Nat) (l : List Lp) : Prop where
  lo : B ≤ q
  hi : q < w.heap.size
  nst : NstR (fun k => B ≤ k ∧ TyZ w k) false w q 0 l
theorem CpdZ.later {B : Nat} {w w' : World} {q : Nat} {l : List Lp} (h : CpdZ B w q l) (hb : Below w.heap.size w w') : CpdZ B w' q l :=
  ⟨h.lo, Nat.lt_of_lt_of_le h.hi hb.size, NstR.mono (fun k hk => ⟨hk.1, hk.2.keep (hb.block k hk.2.lt)⟩) _ _ _ (NstR.keep (fun k hk => hb.block k hk.2.lt) _ _ _ h.nst)⟩
def CpZ (B L : Nat) (l : List Lp) (w : World) (v : Value) : Prop := ∃ q, v = .slice (some ⟨q, 0, none⟩) L L ∧ B ≤ q ∧ q < w.heap.size ∧ NstR (fun k => B ≤ k ∧ TyZ w k) false w q 0 l
theorem CpZ.later {B L : Nat} {l : List Lp} {w w' : World} {v : Value} (h : CpZ B L l w v) (hb : Below w.heap.size w w') : CpZ B L l w' v := by
  obtain ⟨q, e, h1, h2, h3⟩ := h
  have := CpdZ.later ⟨h1, h2, h3⟩ hb
  exact ⟨q, e, this.lo, this.hi, this.nst⟩
theorem CapZ.pre {B : Nat} {w : World} {g c : Nat} {S T : List Lv} (h : CapZ B w (some ⟨g, 0, none⟩) c (S ++ T)) : CapZ B w (some ⟨g, 0, none⟩) c S := by
  refine ⟨flatZ_len S, .inr ?_⟩
  rcases h.2 with ⟨hv, -⟩ | ⟨g1, cap, cur, hv, hg, hh, hc, hm, hs, ht⟩
  · simp at hv
  · cases hv
    rw [List.length_append] at hc ht
    refine ⟨g, c, cur, rfl, hg, hh, by omega, hm, hs, ?_⟩
    have e := congrArg (List.take (S.length * 3)) ht
    rw [List.take_take, Nat.min_eq_left (by omega), flatZ_append, List.take_append_of_le_length (by rw [flatZ_len]; exact Nat.le_refl _)] at e
    exact e.trans (List.take_of_length_le (by rw [flatZ_len]; exact Nat.le_refl _))
theorem capZ_mono {B B' : Nat} {w : World} {a : Option Addr} {c : Nat} {L : List Lv} (h : CapZ B w a c L) (hB : B' ≤ B) : CapZ B' w a c L := by
  refine ⟨h.1, ?_⟩
  rcases h.2 with h2 | ⟨g, cc, cur, hv, hg, r⟩
  · exact .inl h2
  · exact .inr ⟨g, cc, cur, hv, Nat.le_trans hB hg, r⟩
/-- A row of loops: where it lies, its room, its loops. -/
structure RwL where
  a : Option Addr
  c : Nat
  Z : List Lv
/-- A nest's lists, in the order of pianolakeep.lists, but the topmost. -/
def RelR : List Lp → List Lv → List RwL → Prop
  | [], S, Rs => S = [] ∧ Rs = []
  | ⟨t, n, bd⟩ :: r, S, Rs => ∃ s S' R1 R2, S = s :: S' ∧ Rs = R1 ++ R2 ∧ s.t = t ∧ s.n = n ∧ s.k = bd.length ∧ RelR r S' R2 ∧ ((bd = [] ∧ R1 = []) ∨ (bd ≠ [] ∧ ∃ S0 R0, R1 = R0 ++ [⟨s.a, s.c, S0⟩] ∧ S0.length = bd.length ∧ RelR bd S0 R0))
theorem rel_nil {S : List Lv} {Rs : List RwL} : RelR [] S Rs ↔ S = [] ∧ Rs = [] := by rw [RelR]
theorem rel_cons {x : Lp} {r : List Lp} {S : List Lv} {Rs : List RwL} : RelR (x :: r) S Rs ↔ ∃ s S' R1 R2, S = s :: S' ∧ Rs = R1 ++ R2 ∧ s.t = x.times ∧ s.n = x.node ∧ s.k = x.body.length ∧ RelR r S' R2 ∧ ((x.body = [] ∧ R1 = []) ∨ (x.body ≠ [] ∧ ∃ S0 R0, R1 = R0 ++ [⟨s.a, s.c, S0⟩] ∧ S0.length = x.body.length ∧ RelR x.body S0 R0)) := by
  obtain ⟨t, n, bd⟩ := x
  rw [RelR]
theorem rel_len : ∀ {l : List Lp} {S : List Lv} {Rs : List RwL}, RelR l S Rs → S.length = l.length
  | [], S, Rs, h => by rw [(rel_nil.1 h).1]; rfl
  | x :: r, S, Rs, h => by
    obtain ⟨s, S', R1, R2, rfl, -, -, -, -, h, -⟩ := rel_cons.1 h
    rw [List.length_cons, List.length_cons, rel_len h]
theorem rel_snoc {x : Lp} {s : Lv} {Q : List RwL} (h1 : s.t = x.times) (h2 : s.n = x.node) (h3 : s.k = x.body.length) (h4 : (x.body = [] ∧ Q = []) ∨ (x.body ≠ [] ∧ ∃ S0 R0, Q = R0 ++ [⟨s.a, s.c, S0⟩] ∧ S0.length = x.body.length ∧ RelR x.body S0 R0)) : ∀ {l : List Lp} {S : List Lv} {Rs : List RwL}, RelR l S Rs → RelR (l ++ [x]) (S ++ [s]) (Rs ++ Q)
  | [], S, Rs, h => by
    obtain ⟨rfl, rfl⟩ := rel_nil.1 h
    refine rel_cons.2 ⟨s, [], Q, [], rfl, by simp, h1, h2, h3, rel_nil.2 ⟨rfl, rfl⟩, h4⟩
  | y :: l, S, Rs, h => by
    obtain ⟨s', S', R1, R2, rfl, rfl, q1, q2, q3, h, q4⟩ := rel_cons.1 h
    exact rel_cons.2 ⟨s', S' ++ [s], R1, R2 ++ Q, rfl, by rw [List.append_assoc], q1, q2, q3, rel_snoc h1 h2 h3 h4 h, q4⟩
/-- Rows of a call's own that lie apart from one another, and from the row at d. -/
structure FamR (B : Nat) (w : World) (d : Option Addr) (Rs : List RwL) : Prop where
  own : ∀ r ∈ Rs, CapZ B w r.a r.c r.Z
  off : ∀ r ∈ Rs, ∀ x y, r.a = some x → d = some y → x.block ≠ y.block
  pair : Rs.Pairwise (fun r s => ∀ x y, r.a = some x → s.a = some y → x.block ≠ y.block)
theorem FamR.nil (B : Nat) (w : World) (d : Option Addr) : FamR B w d [] := ⟨fun _ h => (by cases h), fun _ h => (by cases h), List.Pairwise.nil⟩
theorem FamR.step {B : Nat} {w w' : World} {d d2 : Option Addr} {Rs : List RwL} (h : FamR B w d Rs) (hold : ∀ j, B ≤ j → j < w.heap.size → (∀ y, d = some y → y.block ≠ j) → w'.heap[j]? = w.heap[j]?) (hnew : ∀ z, d2 = some z → d = some z ∨ w.heap.size ≤ z.block) : FamR B w' d2 Rs := by
  refine ⟨fun r hr => (h.own r hr).keep fun x hx => ?_, fun r hr x y hx hy e => ?_, h.pair⟩
  · have q := (h.own r hr).lt x hx
    exact hold _ q.1 q.2 fun y hy e => h.off r hr x y hx hy e.symm
  · rcases hnew y hy with q | q
    · exact h.off r hr x y hx q e
    · have := ((h.own r hr).lt x hx).2; omega
theorem FamR.keep {B : Nat} {w w' : World} {d : Option Addr} {Rs : List RwL} (h : FamR B w d Rs) (hk : ∀ r ∈ Rs, ∀ x, r.a = some x → w'.heap[x.block]? = w.heap[x.block]?) : FamR B w' d Rs := ⟨fun r hr => (h.own r hr).keep fun x hx => hk r hr x hx, h.off, h.pair⟩
theorem FamR.later {B : Nat} {w w' : World} {d : Option Addr} {Rs : List RwL} (h : FamR B w d Rs) (hb : Below w.heap.size w w') : FamR B w' d Rs := h.step (fun j _ hj _ => hb.block j hj) fun _ hz => .inl hz
/-- The rows of a nest that was made later, behind. -/
theorem FamR.join {B B2 : Nat} {w : World} {d d2 : Option Addr} {Rs Qs : List RwL} {r : RwL} (h : FamR B w d Rs) (k : FamR B2 w d2 Qs) (hB : B ≤ B2) (hr : CapZ B2 w r.a r.c r.Z) (hd : r.a = d2) (hlt : ∀ s ∈ Rs, ∀ x, s.a = some x → x.block < B2) (hdl : ∀ y, d = some y → y.block < B2) : FamR B w d (Rs ++ (Qs ++ [r])) := by
  have low : ∀ s ∈ Qs ++ [r], ∀ x, s.a = some x → B2 ≤ x.block := fun s hs x hx => by
    rcases List.mem_append.1 hs with q | q
    · exact ((k.own s q).lt x hx).1
    · rw [List.mem_singleton.1 q] at hx
      exact (hr.lt x hx).1
  refine ⟨fun s hs => ?_, fun s hs x y hx hy e => ?_, List.pairwise_append.2 ⟨h.pair, List.pairwise_append.2 ⟨k.pair, List.pairwise_singleton .., fun s hs t ht x y hx hy => ?_⟩, fun s hs t ht x y hx hy e => ?_⟩⟩
  · rcases List.mem_append.1 hs with q | q
    · exact h.own s q
    · rcases List.mem_append.1 q with q | q
      · exact capZ_mono (k.own s q) hB
      · rw [List.mem_singleton.1 q]; exact capZ_mono hr hB
  · rcases List.mem_append.1 hs with q | q
    · exact h.off s q x y hx hy e
    · have := low s q x hx; have := hdl y hy; omega
  · rw [List.mem_singleton.1 ht, hd] at hy
    exact k.off s hs x y hx hy
  · have := hlt s hs x hx; have := low t ht y hy; omega
/-- What LentLoops gives. -/
structure LtdZ (B : Nat) (w : World) (g c : Nat) (l : List Lp) : Prop where
  lo : B ≤ g
  hi : g < w.heap.size
  cap : l.length + 1 ≤ c
  nst : NstR (fun k => B ≤ k ∧ TyZ w k) true w g 0 l
  row : ∃ S, CapZ B w (some ⟨g, 0, none⟩) c S ∧ MchZ (fun k => B ≤ k ∧ TyZ w k ∧ k ≠ g) true w S l
  fam : ∃ S Rs, CapZ B w (some ⟨g, 0, none⟩) c S ∧ RelR l S Rs ∧ FamR B w (some ⟨g, 0, none⟩) Rs
theorem LtdZ.later {B : Nat} {w w' : World} {g c : Nat} {l : List Lp} (h : LtdZ B w g c l) (hb : Below w.heap.size w w') : LtdZ B w' g c l :=
  ⟨h.lo, Nat.lt_of_lt_of_le h.hi hb.size, h.cap, NstR.mono (fun k hk => ⟨hk.1, hk.2.keep (hb.block k hk.2.lt)⟩) _ _ _ (NstR.keep (fun k hk => hb.block k hk.2.lt) _ _ _ h.nst), by
    obtain ⟨S, h1, h2⟩ := h.row
    exact ⟨S, h1.later hb, MchZ.mono (fun k hk => ⟨hk.1, hk.2.1.keep (hb.block k hk.2.1.lt), hk.2.2⟩) (MchZ.keep (fun k hk => hb.block k hk.2.1.lt) h2)⟩, by
    obtain ⟨S, Rs, h1, h2, h3⟩ := h.fam
    exact ⟨S, Rs, h1.later hb, h2, h3.later hb⟩⟩
end Go.Proofs.Ytmeogapffdgjlab

/- Texts of one chain, laid one behind the other. -/
import Derived.Test.YtmeogapffdgjlaaPartNestRanges12
import Derived.WalkSmall
import Derived.Test.YtmeogapffdgjlaaPartNestRanges8
import Derived.Test.YtmeogapffdgjlaaPartNestRanges3
namespace Go.Proofs.Ytmeogapffdgjlaa
open Go.ChangeShapes Go.WideShapes Go.ChangeAt Go.RowKit
/-- A loop as its three cells lie. -/
structure Lv where
  t : Int
  n : Int
  a : Option Addr
  k : Nat
  c : Nat
def lvV (x : Lv) : List Value := [.int .i64 x.t, .int .i64 x.n, .slice x.a x.k x.c]
def flatZ : List Lv → List Value
  | [] => []
  | x :: L => lvV x ++ flatZ L
def nthZ (L : List Lv) (k : Nat) : Lv := L.getD k ⟨0, 0, none, 0, 0⟩
def celZ (x : Lv) (j : Nat) : Value := if j = 0 then .int .i64 x.t else if j = 1 then .int .i64 x.n else .slice x.a x.k x.c
theorem flatZ_len : ∀ (L : List Lv), (flatZ L).length = L.length * 3
  | [] => rfl
  | x :: L => by show (lvV x ++ flatZ L).length = _; rw [List.length_append, flatZ_len L, List.length_cons]; show 3 + _ = _; omega
theorem flatZ_append : ∀ (L M : List Lv), flatZ (L ++ M) = flatZ L ++ flatZ M
  | [], _ => rfl
  | x :: L, M => by show lvV x ++ flatZ (L ++ M) = lvV x ++ flatZ L ++ flatZ M; rw [flatZ_append L M, List.append_assoc]
theorem flatZ_get : ∀ {L : List Lv} {k j : Nat}, k < L.length → j < 3 → (flatZ L)[k * 3 + j]? = some (celZ (nthZ L k) j)
  | [], k, j, hk, _ => absurd hk (Nat.not_lt_zero _)
  | a :: L, 0, j, _, hj => by
    show (lvV a ++ flatZ L)[0 * 3 + j]? = _
    rw [Nat.zero_mul, Nat.zero_add, List.getElem?_append_left (by show j < 3; exact hj)]
    match j, hj with
    | 0, _ => rfl
    | 1, _ => rfl
    | 2, _ => rfl
  | a :: L, k + 1, j, hk, hj => by
    show (lvV a ++ flatZ L)[(k + 1) * 3 + j]? = _
    rw [List.getElem?_append_right (by show 3 ≤ _; omega)]
    have e : (k + 1) * 3 + j - (lvV a).length = k * 3 + j := by show (k + 1) * 3 + j - 3 = _; omega
    rw [e]
    exact flatZ_get (Nat.lt_of_succ_lt_succ hk) hj
theorem flatZ_one (L : List Lv) : ∀ u ∈ flatZ L, u.oneCell' = true := by
  induction L with
  | nil => intro u hu; cases hu
  | cons a L ih =>
    intro u hu
    rcases List.mem_append.1 (show u ∈ lvV a ++ flatZ L from hu) with h | h
    · simp [lvV] at h
      rcases h with rfl | rfl | rfl <;> rfl
    · exact ih u h
/-- A row of loops of a call's own, with room behind it. -/
def CapZ (B : Nat) (w : World) (a : Option Addr) (c : Nat) (L : List Lv) : Prop := w.ownsRow B 57 3 (.slice a L.length c) L.length (flatZ L)
theorem CapZ.nil (B : Nat) (w : World) : CapZ B w none 0 [] := World.ownsRow_nil _ _ _ _
theorem CapZ.cell {B : Nat} {w : World} {g c : Nat} {L : List Lv} (h : CapZ B w (some ⟨g, 0, none⟩) c L) {k j : Nat} (hk : k < L.length) (hj : j < 3) : w.cell? ⟨g, k * 3 + j, none⟩ = some (celZ (nthZ L k) j) := by
  rw [World.ownsRow.cellAt h (k * 3 + j) (by omega), flatZ_get hk hj]
theorem CapZ.there {B : Nat} {w : World} {a : Option Addr} {c : Nat} {L : List Lv} (h : CapZ B w a c L) (h0 : L ≠ []) : ∃ g, a = some ⟨g, 0, none⟩ := by
  rcases h.2 with ⟨hv, hn⟩ | ⟨g, cap, cur, hv, hg, hh, hc, hm, hs, ht⟩
  · exact absurd (List.eq_nil_of_length_eq_zero hn) h0
  · cases hv; exact ⟨g, rfl⟩
theorem CapZ.lt {B : Nat} {w : World} {a : Option Addr} {c : Nat} {L : List Lv} (h : CapZ B w a c L) : ∀ x, a = some x → B ≤ x.block ∧ x.block < w.heap.size := by
  intro x hx
  rcases h.2 with ⟨hv, hn⟩ | ⟨g, cap, cur, hv, hg, hh, hc, hm, hs, ht⟩
  · simp at hv; rw [hv.1] at hx; cases hx
  · cases hv
    cases hx
    exact ⟨hg, (Array.getElem?_eq_some_iff.1 hh).1⟩
theorem CapZ.keep {B : Nat} {w w' : World} {a : Option Addr} {c : Nat} {L : List Lv} (h : CapZ B w a c L) (hk : ∀ x, a = some x → w'.heap[x.block]? = w.heap[x.block]?) : CapZ B w' a c L := by
  refine ⟨h.1, ?_⟩
  rcases h.2 with h2 | ⟨g, cap, cur, hv, hg, hh, r⟩
  · exact .inl h2
  · refine .inr ⟨g, cap, cur, hv, hg, ?_, r⟩
    cases hv
    rw [hk _ rfl]; exact hh
theorem CapZ.later {B : Nat} {w w' : World} {a : Option Addr} {c : Nat} {L : List Lv} (h : CapZ B w a c L) (hb : Below w.heap.size w w') : CapZ B w' a c L := h.keep fun x hx => hb.block _ (h.lt x hx).2
theorem CapZ.room {B : Nat} {w : World} {a : Option Addr} {c : Nat} {L : List Lv} (h : CapZ B w a c L) : L.length ≤ c := by
  rcases h.2 with ⟨hv, hn⟩ | ⟨g, cap, cur, hv, hg, hh, hc, hm, r⟩
  · simp at hv; omega
  · cases hv; exact hc
theorem Try.infoLoop : (Try.prog.info? 57).map (fun i => (i.zero, i.size, i.bytes)) = some (some (.agg #[.int .i64 0, .int .i64 0, .slice none 0 0]), 3, 40) := by kernel_rfl
/-- A row that has grown; all else is as it was. -/
structure GrwZ (B : Nat) (V : World) (d0 : Option Addr) (L : List Lv) (u : World) (d : Option Addr) (c : Nat) : Prop where
  own : CapZ B u d c L
  keep : ∀ k, k < V.heap.size → (∀ y, d0 = some y → y.block ≠ k) → u.heap[k]? = V.heap[k]?
  new : ∀ z, d = some z → d0 = some z ∨ V.heap.size ≤ z.block
  size : V.heap.size ≤ u.heap.size
  os : u.os = V.os
  tape : u.tape = V.tape
  output : u.output = V.output
theorem GrwZ.below {B : Nat} {V u : World} {d0 d : Option Addr} {L : List Lv} {c : Nat} (h : GrwZ B V d0 L u d c) (h0 : ∀ y, d0 = some y → B ≤ y.block) (hB : B ≤ V.heap.size) : Below B V u :=
  ⟨h.os, h.tape, h.output, h.size, fun k hk => h.keep k (Nat.lt_of_lt_of_le hk hB) fun y hy e => by have := h0 y hy; omega⟩
theorem wpList_appZ {w : World} {ops : Array Oper} {rest : List Oper} {o : Oper} {a : Act} {Q : Exit → Act → World → Prop} (hgd : o.guard = none) (s x : Operand) (ho : o.op = .call { callee := .builtin .append, args := #[s, x], argTypes := #[22, 22] })
    (B : Nat) (d0 : Option Addr) (c0 : Nat) (zs : List Lv) (n : Nat) (hn : zs.length = n) (hs : a.eval s = .slice d0 n c0) (hown : CapZ B w d0 c0 zs) (g : Nat) (y : Lv) (hx : a.eval x = .slice (some ⟨g, 0, none⟩) 1 1) (h0 : w.cell? ⟨g, 0, none⟩ = some (.int .i64 y.t)) (h1 : w.cell? ⟨g, 1, none⟩ = some (.int .i64 y.n)) (h2 : w.cell? ⟨g, 2, none⟩ = some (.slice y.a y.k y.c)) (hb : n ≤ 10000000) (hB : B ≤ w.heap.size)
    (h : ∀ d c' w', GrwZ B w d0 (zs ++ [y]) w' d c' → wpList Try.prog ops Q rest (a.put o.dst (.slice d (n + 1) c')) w') : wpList Try.prog ops Q (o :: rest) a w := by
  subst hn
  obtain ⟨i0, hi, hz0, hz1, hz2⟩ := info_parts Try.infoLoop
  refine wpList_append_told w hgd s x 22 ho B 57 i0 _ 3 40 Try.underlying22 hi hz0 hz1 hz2 rfl (by decide) _ zs.length (flatZ zs) hs hown ⟨g, 0, none⟩ 1 1 (by decide) (lvV y) hx rfl (fun j u hu => ?_) (fun u hu => ?_) (by unfold maxLen; omega) (by omega) hB ?_
  · match j, hu with
    | 0, hu => cases hu; simpa [Addr.add] using h0
    | 1, hu => cases hu; simpa [Addr.add] using h1
    | 2, hu => cases hu; simpa [Addr.add] using h2
  · exact flatZ_one [y] u (by rw [show flatZ [y] = lvV y ++ [] from rfl, List.append_nil]; exact hu)
  intro v' w' hown1 hgrow
  have hown' : w'.ownsRow B 57 3 v' (zs ++ [y]).length (flatZ (zs ++ [y])) := by
    rw [flatZ_append, List.length_append]
    exact (show flatZ [y] = lvV y by rw [show flatZ [y] = lvV y ++ [] from rfl, List.append_nil]) ▸ hown1
  rcases hgrow with ⟨g1, cap, e1, rfl, hg⟩ | ⟨cap, rfl, hg⟩
  · cases e1
    refine h _ _ w' ⟨by unfold CapZ; simpa using hown', fun k hk hne => hg.block k hk (fun e => by cases e; exact hne _ rfl rfl), fun z hz => .inl hz, hg.size, hg.os, hg.tape, hg.output⟩
  · refine h _ _ w' ⟨by unfold CapZ; simpa using hown', fun k hk hne => hg.block k hk (fun e => by cases e), fun z hz => by cases hz; exact .inr (Nat.le_refl _), hg.size, hg.os, hg.tape, hg.output⟩
/-- Rows and the nests that they are. -/
def MchZ (F : Nat → Prop) (m : Bool) (w : World) : List Lv → List Lp → Prop
  | [], [] => True
  | s :: S, x :: l => (s.t = x.times ∧ s.n = x.node ∧ s.k = x.body.length ∧ (x.body = [] ∨ ∃ b o, s.a = some ⟨b, o, none⟩ ∧ (m = true → x.body.length + 1 ≤ s.c) ∧ NstR F m w b o x.body)) ∧ MchZ F m w S l
  | [], _ :: _ => False
  | _ :: _, [] => False
theorem MchZ.len {F : Nat → Prop} {m : Bool} {w : World} : ∀ {S : List Lv} {l : List Lp}, MchZ F m w S l → S.length = l.length
  | [], [], _ => rfl
  | _ :: _, _ :: _, h => by rw [List.length_cons, List.length_cons, MchZ.len h.2]
  | [], _ :: _, h => h.elim
  | _ :: _, [], h => h.elim
theorem MchZ.keep {F : Nat → Prop} {m : Bool} {w w' : World} (hk : ∀ k, F k → w'.heap[k]? = w.heap[k]?) : ∀ {S : List Lv} {l : List Lp}, MchZ F m w S l → MchZ F m w' S l
  | [], [], _ => trivial
  | _ :: _, _ :: _, ⟨⟨h1, h2, h3, h4⟩, h5⟩ => ⟨⟨h1, h2, h3, h4.imp id fun ⟨b, o, e, q, h⟩ => ⟨b, o, e, q, NstR.keep hk _ _ _ h⟩⟩, MchZ.keep hk h5⟩
  | [], _ :: _, h => h.elim
  | _ :: _, [], h => h.elim
theorem MchZ.mono {F G : Nat → Prop} {m : Bool} {w : World} (hk : ∀ k, F k → G k) : ∀ {S : List Lv} {l : List Lp}, MchZ F m w S l → MchZ G m w S l
  | [], [], _ => trivial
  | _ :: _, _ :: _, ⟨⟨h1, h2, h3, h4⟩, h5⟩ => ⟨⟨h1, h2, h3, h4.imp id fun ⟨b, o, e, q, h⟩ => ⟨b, o, e, q, NstR.mono hk _ _ _ h⟩⟩, MchZ.mono hk h5⟩
  | [], _ :: _, h => h.elim
  | _ :: _, [], h => h.elim
theorem MchZ.snoc {F : Nat → Prop} {m : Bool} {w : World} {s : Lv} {x : Lp} (hx : s.t = x.times ∧ s.n = x.node ∧ s.k = x.body.length ∧ (x.body = [] ∨ ∃ b o, s.a = some ⟨b, o, none⟩ ∧ (m = true → x.body.length + 1 ≤ s.c) ∧ NstR F m w b o x.body)) : ∀ {S : List Lv} {l : List Lp}, MchZ F m w S l → MchZ F m w (S ++ [s]) (l ++ [x])
  | [], [], _ => ⟨hx, trivial⟩
  | _ :: _, _ :: _, ⟨h1, h2⟩ => ⟨h1, MchZ.snoc hx h2⟩
  | [], _ :: _, h => h.elim
  | _ :: _, [], h => h.elim
theorem MchZ.append {F : Nat → Prop} {m : Bool} {w : World} : ∀ {S T : List Lv} {l r : List Lp}, MchZ F m w S l → MchZ F m w T r → MchZ F m w (S ++ T) (l ++ r)
  | [], _, [], _, _, h => h
  | _ :: _, _, _ :: _, _, ⟨h1, h2⟩, h => ⟨h1, MchZ.append h2 h⟩
  | [], _, _ :: _, _, h, _ => h.elim
  | _ :: _, _, [], _, h, _ => h.elim
theorem MchZ.bare {F : Nat → Prop} {m : Bool} {w : World} : ∀ {S : List Lv} {l : List Lp}, MchZ F m w S l → MchZ F false w S l
  | [], [], _ => trivial
  | _ :: _, _ :: _, ⟨⟨h1, h2, h3, h4⟩, h5⟩ => ⟨⟨h1, h2, h3, h4.imp id fun ⟨b, o, e, _, h⟩ => ⟨b, o, e, (fun e => by cases e), NstR.bare _ _ _ h⟩⟩, MchZ.bare h5⟩
  | [], _ :: _, h => h.elim
  | _ :: _, [], h => h.elim
theorem nst_of_row {F : Nat → Prop} {m : Bool} {w : World} {b : Nat} (hF : F b) : ∀ {S : List Lv} {l : List Lp} {o : Nat}, MchZ F m w S l → (∀ k, k < S.length → ∀ j, j < 3 → w.cell? ⟨b, o + k * 3 + j, none⟩ = some (celZ (nthZ S k) j)) → (m = true → w.cell? ⟨b, o + S.length * 3, none⟩ = some (.int .i64 (-7770777))) → NstR F m w b o l
  | [], [], o, _, _, h3 => by rw [nst_nil]; exact fun e => ⟨hF, by have := h3 e; simpa using this⟩
  | s :: S, x :: l, o, ⟨⟨h1, h2, h3, h4⟩, h5⟩, hc, hm => by
    rw [nst_cons]
    have c0 := hc 0 (Nat.succ_pos _) 0 (by decide)
    have c1 := hc 0 (Nat.succ_pos _) 1 (by decide)
    have c2 := hc 0 (Nat.succ_pos _) 2 (by decide)
    rw [show o + 0 * 3 + 0 = o by omega, show celZ (nthZ (s :: S) 0) 0 = .int .i64 s.t from rfl, h1] at c0
    rw [show o + 0 * 3 + 1 = o + 1 by omega, show celZ (nthZ (s :: S) 0) 1 = .int .i64 s.n from rfl, h2] at c1
    rw [show o + 0 * 3 + 2 = o + 2 by omega, show celZ (nthZ (s :: S) 0) 2 = .slice s.a s.k s.c from rfl, h3] at c2
    refine ⟨hF, c0, c1, ⟨s.a, s.c, c2, h4⟩, nst_of_row hF h5 (fun k hk j hj => ?_) (fun e => ?_)⟩
    · have := hc (k + 1) (Nat.succ_lt_succ hk) j hj
      rw [show o + (k + 1) * 3 + j = o + 3 + k * 3 + j by omega] at this
      simpa [nthZ] using this
    · have := hm e
      rw [List.length_cons, show o + (S.length + 1) * 3 = o + 3 + S.length * 3 by omega] at this
      exact this
  | [], _ :: _, _, h, _, _ => h.elim
  | _ :: _, [], _, h, _, _ => h.elim
theorem nthZ_rep (n k : Nat) : nthZ (List.replicate n ⟨0, 0, none, 0, 0⟩) k = ⟨0, 0, none, 0, 0⟩ := by
  unfold nthZ
  rw [List.getD_eq_getElem?_getD, List.getElem?_replicate]
  split <;> rfl
theorem madeZ (n : Nat) : (madeCells #[.int .i64 0, .int .i64 0, .slice none 0 0] (n * 3)).toList = flatZ (List.replicate n ⟨0, 0, none, 0, 0⟩) := by
  apply List.ext_getElem?
  intro j
  by_cases hj : j < n * 3
  · have hk : j / 3 < (List.replicate n (⟨0, 0, none, 0, 0⟩ : Lv)).length := by rw [List.length_replicate]; omega
    have hr : j % 3 < 3 := Nat.mod_lt _ (by decide)
    have h1 := flatZ_get (L := List.replicate n ⟨0, 0, none, 0, 0⟩) hk hr
    rw [show j / 3 * 3 + j % 3 = j by omega, nthZ_rep] at h1
    rw [h1]
    have h2 : (madeCells #[.int .i64 0, .int .i64 0, .slice none 0 0] (n * 3)).toList[j]? = some (#[Value.int .i64 0, .int .i64 0, .slice none 0 0][j % 3]!) := by simp [madeCells, hj]
    rw [h2]
    generalize j % 3 = r at *
    match r, hr with
    | 0, _ => rfl
    | 1, _ => rfl
    | 2, _ => rfl
  · rw [List.getElem?_eq_none (by rw [Array.length_toList, size_madeCells]; omega), List.getElem?_eq_none (by rw [flatZ_len, List.length_replicate]; omega)]
theorem flatZ_set : ∀ (S : List Lv) (s : Lv) (T : List Lv) (y : Lv), (((flatZ (S ++ y :: T)).set (S.length * 3) (.int .i64 s.t)).set (S.length * 3 + 1) (.int .i64 s.n)).set (S.length * 3 + 2) (.slice s.a s.k s.c) = flatZ (S ++ s :: T)
  | [], s, T, y => rfl
  | x :: S, s, T, y => by
    show (((lvV x ++ flatZ (S ++ y :: T)).set _ _).set _ _).set _ _ = lvV x ++ flatZ (S ++ s :: T)
    rw [← flatZ_set S s T y]
    have e : (lvV x).length = 3 := rfl
    rw [List.length_cons, List.set_append_right _ _ (by rw [e]; omega), List.set_append_right _ _ (by rw [e]; omega), List.set_append_right _ _ (by rw [e]; omega), e]
    rw [show (S.length + 1) * 3 - 3 = S.length * 3 by omega, show (S.length + 1) * 3 + 1 - 3 = S.length * 3 + 1 by omega, show (S.length + 1) * 3 + 2 - 3 = S.length * 3 + 2 by omega]
/-- A row, or a box, of loops. -/
def TyZ (w : World) (k : Nat) : Prop := ∃ cs, BlkA 57 k w cs
theorem TyZ.lt {w : World} {k : Nat} (h : TyZ w k) : k < w.heap.size := by obtain ⟨cs, h⟩ := h; exact h.lt
theorem TyZ.keep {w w' : World} {k : Nat} (h : TyZ w k) (hb : w'.heap[k]? = w.heap[k]?) : TyZ w' k := by obtain ⟨cs, h⟩ := h; exact ⟨cs, h.keep hb⟩
theorem CapZ.ty {B : Nat} {w : World} {g c : Nat} {L : List Lv} (h : CapZ B w (some ⟨g, 0, none⟩) c L) : TyZ w g := by
  rcases h.2 with ⟨hv, -⟩ | ⟨g', cap, cur, hv, hg, hh, r⟩
  · cases hv
  · cases hv; exact ⟨cur, hh⟩
/-- What copied gives. -/
structure CpdZ (B : Nat) (w : World) (q : Nat) (l : List Lp) : Prop where
  lo : B ≤ q
  hi : q < w.heap.size
  nst : NstR (fun k => B ≤ k ∧ TyZ w k) false w q 0 l
theorem CpdZ.later {B : Nat} {w w' : World} {q : Nat} {l : List Lp} (h : CpdZ B w q l) (hb : Below w.heap.size w w') : CpdZ B w' q l :=
  ⟨h.lo, Nat.lt_of_lt_of_le h.hi hb.size, NstR.mono (fun k hk => ⟨hk.1, hk.2.keep (hb.block k hk.2.lt)⟩) _ _ _ (NstR.keep (fun k hk => hb.block k hk.2.lt) _ _ _ h.nst)⟩
def CpZ (B L : Nat) (l : List Lp) (w : World) (v : Value) : Prop := ∃ q, v = .slice (some ⟨q, 0, none⟩) L L ∧ B ≤ q ∧ q < w.heap.size ∧ NstR (fun k => B ≤ k ∧ TyZ w k) false w q 0 l
theorem CpZ.later {B L : Nat} {l : List Lp} {w w' : World} {v : Value} (h : CpZ B L l w v) (hb : Below w.heap.size w w') : CpZ B L l w' v := by
  obtain ⟨q, e, h1, h2, h3⟩ := h
  have := CpdZ.later ⟨h1, h2, h3⟩ hb
  exact ⟨q, e, this.lo, this.hi, this.nst⟩
def CopOK (l : List Lp) : Prop := ∀ (B : Nat) (m : Bool) (a : Option Addr) (c : Nat) (w : World), Nst (· < B) m w a l → B ≤ w.heap.size → sizZ l ≤ 1000000 → Calls Try.prog 39 #[.slice a l.length c] w fun e w' => ∃ q, e = .returned (.slice (some ⟨q, 0, none⟩) l.length l.length) ∧ CpdZ w.heap.size w' q l ∧ Below w.heap.size w w'
set_option maxRecDepth 100000 in
set_option maxHeartbeats 16000000 in
theorem copiedZ_any (l : List Lp) : CopOK l := by
  refine nest_ind (fun l ih => ?_) l
  intro B m a c w hN hBs hs
  obtain ⟨RE, hRE⟩ : ∃ Q : Ending → World → Prop, (fun e w' => ∃ q, e = .returned (.slice (some ⟨q, 0, none⟩) l.length l.length) ∧ CpdZ w.heap.size w' q l ∧ Below w.heap.size w w') = Q := ⟨_, rfl⟩
  rw [hRE]
  have HRE := hiddenN hRE
  have IH := hiddenN ih
  have HSZ := hiddenN hs
  obtain ⟨L, hL⟩ : ∃ L, l.length = L := ⟨_, rfl⟩
  have hLm : L ≤ 1000000 := by have := len_siz l; omega
  have hLI : (L : Int) ≤ 1000000 := by omega
  have HL := hiddenN hL
  obtain ⟨i0, hi, hz0, hz1, hz2⟩ := info_parts Try.infoLoop
  obtain ⟨w1, hr, ho, hg⟩ := run_make_full (P := Try.prog) w w.heap.size 22 57 i0 _ 3 Try.underlying22 hi hz0 hz1 .i64 .i64 L (by rw [hz2]; omega) (by unfold maxLen; omega) (Nat.le_refl _)
  have b1 : Below w.heap.size w w1 := (Below.refl _ _).grown hg (Nat.le_refl _) (fun k hk => by cases hk)
  have C0 : Hid (CapZ w.heap.size w1 (some ⟨w.heap.size, 0, none⟩) L (List.replicate L ⟨0, 0, none, 0, 0⟩)) := by
    show CapZ _ _ _ _ _
    unfold CapZ
    rw [List.length_replicate, ← madeZ]
    exact ho
  have B1 := hiddenN b1
  have N0 := hiddenN (NsK.start (hN.below (b1.mono hBs)))
  rw [hL]
  clear hRE ih hN hL hs hi hz0 hz1 hz2 ho hg b1
  go_enter Try.func39, Try.ntmps39
  go_upto_region 3 with fail
  clear hr
  obtain ⟨g, hgE⟩ : ∃ q, w.heap.size = q := ⟨_, rfl⟩
  have HG := hiddenN hgE
  rw [hgE] at C0 B1 hBs ⊢
  clear hgE
  go_loopg [11] L (fun gk iv wr => ∃ (pre rest : List Lp) (k : Nat) (S : List Lv), l = pre ++ rest ∧ pre.length = k ∧ gk = rest.length ∧ iv = .int .i64 (k : Int) ∧ Below g w wr ∧ CapZ g wr (some ⟨g, 0, none⟩) L (S ++ List.replicate rest.length ⟨0, 0, none, 0, 0⟩) ∧ MchZ (fun j => g < j ∧ TyZ wr j) false wr S pre ∧ NsK (· < B) m wr a k rest)
  case atStart => exact ⟨[], l, 0, [], rfl, rfl, HL.out.symm, rfl, B1.out, by rw [HL.out]; exact C0.out, trivial, N0.out⟩
  case round =>
    clear C0 B1 N0
    obtain ⟨pre, rest, k, S, hl, hk, hgk, rfl, hb, hC, hM, hNs⟩ := hrel
    subst hgk
    have HB := hiddenN hb
    have HC := hiddenN hC
    have HM := hiddenN hM
    have NS := hiddenN hNs
    have HL2 := hiddenN hl
    have HPK := hiddenN hk
    have HSK : Hid (S.length = k) := hM.len.trans hk
    have HLK : Hid (L = k + rest.length) := by show _ = _; rw [← HL.out, hl, List.length_append, hk]
    have hgw : g < wr.heap.size := (hC.lt _ rfl).2
    clear hl hk hb hC hM hNs
    cases rest with
    | nil =>
      have hki : ¬ ((k : Int) < (L : Int)) := by rw [HLK.out]; simp
      go_wp2
      rw [← HRE.out]
      have e1 : pre = l := by rw [HL2.out, List.append_nil]
      have hC := HC.out
      rw [List.length_nil, List.replicate_zero, List.append_nil] at hC
      refine ⟨g, by rw [HL.out], ⟨by rw [HG.out]; exact Nat.le_refl _, hgw, ?_⟩, by rw [HG.out]; exact HB.out⟩
      rw [HG.out]
      rw [e1] at HM
      refine nst_of_row (S := S) ⟨Nat.le_refl _, hC.ty⟩ (HM.out.mono fun j hj => ⟨Nat.le_of_lt hj.1, hj.2⟩) (fun k hk j hj => ?_) (fun e => by cases e)
      rw [Nat.zero_add]
      exact hC.cell hk hj
    | cons x r =>
      have hki : (k : Int) < (L : Int) := by rw [HLK.out]; simp; omega
      have hkL : k < L := by rw [HLK.out]; simp
      have hkm : (k : Int) ≤ 1000000 := by omega
      obtain ⟨b, o, a1, c1, rfl, q0, q1, q2, q3⟩ := NS.out.hd
      have hmem : x ∈ l := by rw [HL2.out]; exact List.mem_append_right _ (List.mem_cons_self ..)
      obtain ⟨bd, hbd⟩ : ∃ q, x.body = q := ⟨_, rfl⟩
      obtain ⟨L1, hL1⟩ : ∃ q, bd.length = q := ⟨_, rfl⟩
      obtain ⟨tx, htx⟩ : ∃ q, x.times = q := ⟨_, rfl⟩
      obtain ⟨nx, hnx⟩ : ∃ q, x.node = q := ⟨_, rfl⟩
      rw [htx] at q0
      rw [hnx] at q1
      rw [hbd, hL1] at q2
      rw [hbd] at q3
      have b1 := (Below.refl wr.heap.size wr).alloc (Nat.le_refl _) (.cells #[.int .i64 tx, .int .i64 nx, .slice a1 L1 c1] 57)
      have X1 := hiddenN (blkA_new 57 wr #[.int .i64 tx, .int .i64 nx, .slice a1 L1 c1])
      have hBw : B ≤ wr.heap.size := by omega
      have CB : Hid (∀ u, Below (wr.alloc (.cells #[.int .i64 tx, .int .i64 nx, .slice a1 L1 c1] 57)).heap.size (wr.alloc (.cells #[.int .i64 tx, .int .i64 nx, .slice a1 L1 c1] 57)) u → Calls Try.prog 39 #[.slice a1 L1 c1] u fun e w' => ∃ q, e = .returned (.slice (some ⟨q, 0, none⟩) L1 L1) ∧ CpdZ u.heap.size w' q bd ∧ Below u.heap.size u w') := fun u hu => by
        have h1 := siz_mem hmem
        have := IH.out x hmem B m a1 c1 u
        rw [hbd, hL1] at this
        rw [hbd] at h1
        have h2 := (b1.mono hBw).trans (hu.mono (by have := b1.size; omega))
        exact this (q3.below h2) (Nat.le_trans hBw h2.size) (by have := HSZ.out; omega)
      have HB1 := hiddenN (HB.out.trans (b1.mono (Nat.le_of_lt hgw)))
      have HC1 := hiddenN (HC.out.later b1)
      have HM1 := hiddenN ((HM.out.keep (fun j hj => b1.block j hj.2.lt)).mono (G := fun j => g < j ∧ TyZ (wr.alloc (.cells #[.int .i64 tx, .int .i64 nx, .slice a1 L1 c1] 57)) j) fun j hj => ⟨hj.1, hj.2.keep (b1.block j hj.2.lt)⟩)
      have NS1 := hiddenN (NS.out.tl.below (b1.mono hBw))
      have hgw1 : g < (wr.alloc (.cells #[.int .i64 tx, .int .i64 nx, .slice a1 L1 c1] 57)).heap.size := Nat.lt_of_lt_of_le hgw b1.size
      have HBD := hiddenN hbd
      have HL1 := hiddenN hL1
      have HTX := hiddenN htx
      have HNX := hiddenN hnx
      have y0 := X1.out.cell (k := 0) rfl
      have y1 := X1.out.cell (k := 1) rfl
      have y2 := X1.out.cell (k := 2) rfl
      simp only [List.getElem_toArray, List.getElem_cons_zero, List.getElem_cons_succ] at y0 y1 y2
      clear b1 q3 hmem hbd hL1 htx hnx X1 HM HC HB NS
      go_upto_region 5 with fail
      obtain ⟨xb, hxb⟩ : ∃ q, wr.heap.size = q := ⟨_, rfl⟩
      rw [hxb] at y0 y1 y2 ⊢
      clear hxb hgw hBw q0 q1 q2
      generalize wr.alloc (.cells #[.int .i64 tx, .int .i64 nx, .slice a1 L1 c1] 57) = W1 at *
      refine wp_region_said 11 (fun i u v => match i with
          | 0 => v = .slice (some ⟨g, 0, none⟩) L L
          | 1 => v = .int .i64 (k : Int)
          | 2 => v = .pointer (some ⟨xb, 0, none⟩)
          | 3 => v = .int .i64 tx
          | 4 => v = .pointer (some ⟨xb, 1, none⟩)
          | 5 => v = .int .i64 nx
          | 6 => v = .pointer (some ⟨xb, 2, none⟩)
          | 7 => v = .slice a1 L1 c1
          | 8 => CpZ W1.heap.size L1 bd u v
          | 9 => ∃ q, CpZ W1.heap.size L1 bd u (.slice (some ⟨q, 0, none⟩) L1 L1) ∧ v = (.agg #[.int .i64 tx, .int .i64 nx, .slice (some ⟨q, 0, none⟩) L1 L1])
          | 10 => v = .pointer (some ⟨g, k * 3, none⟩)
          | _ => True) (by kernel_rfl) (by kernel_rfl) (by kernel_rfl) (by kernel_rfl) ?_ ?_ ?_
      · intro i w v w' h hb
        match i, h with
        | 0, h => exact h
        | 1, h => exact h
        | 2, h => exact h
        | 3, h => exact h
        | 4, h => exact h
        | 5, h => exact h
        | 6, h => exact h
        | 7, h => exact h
        | 8, h => exact CpZ.later h hb
        | 9, h => obtain ⟨q, h1, h2⟩ := h; exact ⟨q, CpZ.later h1 hb, h2⟩
        | 10, h => exact h
        | _ + 11, _ => trivial
      · intro i o ρ w' hi ho hb hc hf hfr hdep
        match i, hi with
        | 0, _ =>
          simp only [List.getElem?_toArray, List.getElem?_cons_zero, Option.some.injEq] at ho
          subst ho
          have ts : ρ (.tmp 3) = .slice (some ⟨g, 0, none⟩) L L := hfr 3 (by kernel_rfl)
          simp [go_sem, ts]
          exact ⟨Below.refl _ _, rfl⟩
        | 1, _ =>
          simp only [List.getElem?_toArray, List.getElem?_cons_zero, List.getElem?_cons_succ, Option.some.injEq] at ho
          subst ho
          have ts : ρ (.tmp 4) = .int .i64 (k : Int) := hfr 4 (by kernel_rfl)
          simp [go_sem, ts]
          exact ⟨Below.refl _ _, rfl⟩
        | 2, _ =>
          simp only [List.getElem?_toArray, List.getElem?_cons_zero, List.getElem?_cons_succ, Option.some.injEq] at ho
          subst ho
          have ts : ρ (.tmp 5) = .pointer (some ⟨xb, 0, none⟩) := hfr 5 (by kernel_rfl)
          simp [go_sem, ts]
          exact ⟨Below.refl _ _, rfl⟩
        | 3, _ =>
          simp only [List.getElem?_toArray, List.getElem?_cons_zero, List.getElem?_cons_succ, Option.some.injEq] at ho
          subst ho
          have ts : ρ (.tmp 18) = .pointer (some ⟨xb, 0, none⟩) := hdep 2 18 (by kernel_rfl) (by kernel_rfl)
          have kc := cellN_later hb y0
          simp [go_sem, ts, kc]
          exact ⟨Below.refl _ _, rfl⟩
        | 4, _ =>
          simp only [List.getElem?_toArray, List.getElem?_cons_zero, List.getElem?_cons_succ, Option.some.injEq] at ho
          subst ho
          have ts : ρ (.tmp 5) = .pointer (some ⟨xb, 0, none⟩) := hfr 5 (by kernel_rfl)
          simp [go_sem, ts]
          exact ⟨Below.refl _ _, rfl⟩
        | 5, _ =>
          simp only [List.getElem?_toArray, List.getElem?_cons_zero, List.getElem?_cons_succ, Option.some.injEq] at ho
          subst ho
          have ts : ρ (.tmp 20) = .pointer (some ⟨xb, 1, none⟩) := hdep 4 20 (by kernel_rfl) (by kernel_rfl)
          have kc := cellN_later hb y1
          simp [go_sem, ts, kc]
          exact ⟨Below.refl _ _, rfl⟩
        | 6, _ =>
          simp only [List.getElem?_toArray, List.getElem?_cons_zero, List.getElem?_cons_succ, Option.some.injEq] at ho
          subst ho
          have ts : ρ (.tmp 5) = .pointer (some ⟨xb, 0, none⟩) := hfr 5 (by kernel_rfl)
          simp [go_sem, ts]
          exact ⟨Below.refl _ _, rfl⟩
        | 7, _ =>
          simp only [List.getElem?_toArray, List.getElem?_cons_zero, List.getElem?_cons_succ, Option.some.injEq] at ho
          subst ho
          have ts : ρ (.tmp 22) = .pointer (some ⟨xb, 2, none⟩) := hdep 6 22 (by kernel_rfl) (by kernel_rfl)
          have kc := cellN_later hb y2
          simp [go_sem, ts, kc]
          exact ⟨Below.refl _ _, rfl⟩
        | 8, _ =>
          simp only [List.getElem?_toArray, List.getElem?_cons_zero, List.getElem?_cons_succ, Option.some.injEq] at ho
          subst ho
          have ts : ρ (.tmp 23) = .slice a1 L1 c1 := hdep 7 23 (by kernel_rfl) (by kernel_rfl)
          simp [go_sem, ts, hf]
          exact ⟨rfl, (CB.out w' (hb.mono (Nat.le_refl _))).mono fun e w2 ⟨q, he, h1, h2⟩ => ⟨_, he, h2, q, rfl, Nat.le_trans hb.size h1.lo, h1.hi, NstR.mono (fun j hj => ⟨Nat.le_trans hb.size hj.1, hj.2⟩) _ _ _ h1.nst⟩⟩
        | 9, _ =>
          simp only [List.getElem?_toArray, List.getElem?_cons_zero, List.getElem?_cons_succ, Option.some.injEq] at ho
          subst ho
          have t0 : ρ (.tmp 19) = .int .i64 tx := hdep 3 19 (by kernel_rfl) (by kernel_rfl)
          have t1 : ρ (.tmp 21) = .int .i64 nx := hdep 5 21 (by kernel_rfl) (by kernel_rfl)
          have t2 : CpZ W1.heap.size L1 bd w' (ρ (.tmp 24)) := hdep 8 24 (by kernel_rfl) (by kernel_rfl)
          obtain ⟨q, hq, hlo, hhi, hns⟩ := t2
          simp [go_sem, t0, t1, hq]
          exact ⟨Below.refl _ _, q, ⟨q, rfl, hlo, hhi, hns⟩, rfl⟩
        | 10, _ =>
          simp only [List.getElem?_toArray, List.getElem?_cons_zero, List.getElem?_cons_succ, Option.some.injEq] at ho
          subst ho
          have t0 : ρ (.tmp 16) = .slice (some ⟨g, 0, none⟩) L L := hdep 0 16 (by kernel_rfl) (by kernel_rfl)
          have t1 : ρ (.tmp 17) = .int .i64 (k : Int) := hdep 1 17 (by kernel_rfl) (by kernel_rfl)
          simp [go_sem, t0, t1, hkL]
          exact ⟨Below.refl _ _, rfl⟩
      · intro V w9 q9 hS
        have e0 : V 0 = .slice (some ⟨g, 0, none⟩) L L := hS 0 (by decide)
        have e1 : V 1 = .int .i64 (k : Int) := hS 1 (by decide)
        have e2 : V 2 = .pointer (some ⟨xb, 0, none⟩) := hS 2 (by decide)
        have e3 : V 3 = .int .i64 tx := hS 3 (by decide)
        have e4 : V 4 = .pointer (some ⟨xb, 1, none⟩) := hS 4 (by decide)
        have e5 : V 5 = .int .i64 nx := hS 5 (by decide)
        have e6 : V 6 = .pointer (some ⟨xb, 2, none⟩) := hS 6 (by decide)
        have e7 : V 7 = .slice a1 L1 c1 := hS 7 (by decide)
        have e10 : V 10 = .pointer (some ⟨g, k * 3, none⟩) := hS 10 (by decide)
        obtain ⟨q, hcp, e9⟩ : ∃ q, CpZ W1.heap.size L1 bd w9 (.slice (some ⟨q, 0, none⟩) L1 L1) ∧ V 9 = (.agg #[.int .i64 tx, .int .i64 nx, .slice (some ⟨q, 0, none⟩) L1 L1]) := hS 9 (by decide)
        obtain ⟨V8, e8⟩ : ∃ V8, V 8 = V8 := ⟨_, rfl⟩
        simp only [List.drop_succ_cons, List.drop_zero, List.take_succ_cons, List.take_zero, puts, e0, e1, e2, e3, e4, e5, e6, e7, e8, e9, e10]
        simp only [Act.put, List.setIfInBounds_toArray, List.set_cons_zero, List.set_cons_succ]
        clear hS e0 e1 e2 e3 e4 e5 e6 e7 e8 e9 e10 V
        have HCP := hiddenN hcp
        have HC9 := hiddenN (HC1.out.later q9)
        have HB9 := hiddenN (HB1.out.trans (q9.mono (Nat.le_of_lt hgw1)))
        have hkS : k < (S ++ List.replicate (x :: r).length (⟨0, 0, none, 0, 0⟩ : Lv)).length := by rw [List.length_append, HSK.out, List.length_replicate]; simp
        have z0 := HC9.out.cell hkS (j := 0) (by decide)
        have z1 := HC9.out.cell hkS (j := 1) (by decide)
        have z2 := HC9.out.cell hkS (j := 2) (by decide)
        have enz : nthZ (S ++ List.replicate (x :: r).length (⟨0, 0, none, 0, 0⟩ : Lv)) k = ⟨0, 0, none, 0, 0⟩ := by
          unfold nthZ
          rw [List.getD_eq_getElem?_getD, ← HSK.out, List.getElem?_append_right (Nat.le_refl _), Nat.sub_self]
          rfl
        rw [enz, Nat.add_zero] at z0
        rw [enz] at z1 z2
        rw [show celZ ⟨0, 0, none, 0, 0⟩ 0 = .int .i64 0 from rfl] at z0
        rw [show celZ ⟨0, 0, none, 0, 0⟩ 1 = .int .i64 0 from rfl] at z1
        rw [show celZ ⟨0, 0, none, 0, 0⟩ 2 = .slice none 0 0 from rfl] at z2
        have f0 := World.ownsRow.frozenAt HC9.out (k * 3)
        have f1 := World.ownsRow.frozenAt HC9.out (k * 3 + 1)
        have f2 := World.ownsRow.frozenAt HC9.out (k * 3 + 2)
        have o1 := World.ownsRow.stored HC9.out (k * 3) (.int .i64 tx)
        have o2 := World.ownsRow.stored o1.1 (k * 3 + 1) (.int .i64 nx)
        have o3 := World.ownsRow.stored o2.1 (k * 3 + 2) (.slice (some ⟨q, 0, none⟩) L1 L1)
        have HC10 : Hid (CapZ g (((w9.setCell ⟨g, k * 3, none⟩ (.int .i64 tx)).setCell ⟨g, k * 3 + 1, none⟩ (.int .i64 nx)).setCell ⟨g, k * 3 + 2, none⟩ (.slice (some ⟨q, 0, none⟩) L1 L1)) (some ⟨g, 0, none⟩) L ((S ++ [⟨tx, nx, some ⟨q, 0, none⟩, L1, L1⟩]) ++ List.replicate r.length ⟨0, 0, none, 0, 0⟩)) := by
          have h3 := o3.1
          have e1 : S ++ List.replicate (x :: r).length (⟨0, 0, none, 0, 0⟩ : Lv) = S ++ ⟨0, 0, none, 0, 0⟩ :: List.replicate r.length ⟨0, 0, none, 0, 0⟩ := rfl
          rw [e1, ← HSK.out, flatZ_set S ⟨tx, nx, some ⟨q, 0, none⟩, L1, L1⟩] at h3
          show CapZ _ _ _ _ _
          unfold CapZ
          rw [List.append_assoc, List.singleton_append, ← HSK.out]
          simpa using h3
        have gb := fun j (hj : j < w9.heap.size) (hne : j ≠ g) => (o3.2.block j (by simpa using hj) (by simpa using hne)).trans ((o2.2.block j (by simpa using hj) (by simpa using hne)).trans (o1.2.block j hj (by simpa using hne)))
        have hsz : (((w9.setCell ⟨g, k * 3, none⟩ (.int .i64 tx)).setCell ⟨g, k * 3 + 1, none⟩ (.int .i64 nx)).setCell ⟨g, k * 3 + 2, none⟩ (.slice (some ⟨q, 0, none⟩) L1 L1)).heap.size = w9.heap.size := by simp
        have HB10 : Hid (Below g w (((w9.setCell ⟨g, k * 3, none⟩ (.int .i64 tx)).setCell ⟨g, k * 3 + 1, none⟩ (.int .i64 nx)).setCell ⟨g, k * 3 + 2, none⟩ (.slice (some ⟨q, 0, none⟩) L1 L1))) := ((HB9.out.setCell (p := ⟨g, k * 3, none⟩) (Nat.le_refl _) _).setCell (p := ⟨g, k * 3 + 1, none⟩) (Nat.le_refl _) _).setCell (p := ⟨g, k * 3 + 2, none⟩) (Nat.le_refl _) _
        have HM10 : Hid (MchZ (fun j => g < j ∧ TyZ w9 j) false (((w9.setCell ⟨g, k * 3, none⟩ (.int .i64 tx)).setCell ⟨g, k * 3 + 1, none⟩ (.int .i64 nx)).setCell ⟨g, k * 3 + 2, none⟩ (.slice (some ⟨q, 0, none⟩) L1 L1)) (S ++ [⟨tx, nx, some ⟨q, 0, none⟩, L1, L1⟩]) (pre ++ [x])) := by
          refine MchZ.keep (fun j hj => gb j hj.2.lt (by omega)) (MchZ.snoc ⟨HTX.out.symm, HNX.out.symm, by rw [HBD.out, HL1.out], .inr ⟨q, 0, rfl, (fun e => by cases e), ?_⟩⟩ ((HM1.out.keep (fun j hj => q9.block j hj.2.lt)).mono fun j hj => ⟨hj.1, hj.2.keep (q9.block j hj.2.lt)⟩))
          obtain ⟨q', e, h1, h2, h3⟩ := HCP.out
          cases e
          rw [HBD.out]
          exact NstR.mono (fun j hj => ⟨Nat.lt_of_lt_of_le hgw1 hj.1, hj.2⟩) _ _ _ h3
        have NS10 : Hid (NsK (· < B) m (((w9.setCell ⟨g, k * 3, none⟩ (.int .i64 tx)).setCell ⟨g, k * 3 + 1, none⟩ (.int .i64 nx)).setCell ⟨g, k * 3 + 2, none⟩ (.slice (some ⟨q, 0, none⟩) L1 L1)) (some ⟨b, o, none⟩) (k + 1) r) := NS1.out.keep fun j hj => (gb j (Nat.lt_of_lt_of_le (by omega : j < W1.heap.size) q9.size) (by omega)).trans (q9.block j (by omega))
        have GB := hiddenN gb
        clear hsz gb o1 o2 o3 hcp
        go_wp2
        go_roundg r.length
        case measure => simp
        case rel => exact ⟨pre ++ [x], r, k + 1, S ++ [⟨tx, nx, some ⟨q, 0, none⟩, L1, L1⟩], by rw [HL2.out]; simp, by rw [List.length_append, HPK.out]; rfl, rfl, by go_num, HB10.out, HC10.out, HM10.out.mono fun j hj => ⟨hj.1, hj.2.keep (GB.out j hj.2.lt (by omega))⟩, NS10.out⟩
theorem CapZ.pre {B : Nat} {w : World} {g c : Nat} {S T : List Lv} (h : CapZ B w (some ⟨g, 0, none⟩) c (S ++ T)) : CapZ B w (some ⟨g, 0, none⟩) c S := by
  refine ⟨flatZ_len S, .inr ?_⟩
  rcases h.2 with ⟨hv, -⟩ | ⟨g1, cap, cur, hv, hg, hh, hc, hm, hs, ht⟩
  · simp at hv
  · cases hv
    rw [List.length_append] at hc ht
    refine ⟨g, c, cur, rfl, hg, hh, by omega, hm, hs, ?_⟩
    have e := congrArg (List.take (S.length * 3)) ht
    rw [List.take_take, Nat.min_eq_left (by omega), flatZ_append, List.take_append_of_le_length (by rw [flatZ_len]; exact Nat.le_refl _)] at e
    exact e.trans (List.take_of_length_le (by rw [flatZ_len]; exact Nat.le_refl _))
theorem capZ_mono {B B' : Nat} {w : World} {a : Option Addr} {c : Nat} {L : List Lv} (h : CapZ B w a c L) (hB : B' ≤ B) : CapZ B' w a c L := by
  refine ⟨h.1, ?_⟩
  rcases h.2 with h2 | ⟨g, cc, cur, hv, hg, r⟩
  · exact .inl h2
  · exact .inr ⟨g, cc, cur, hv, Nat.le_trans hB hg, r⟩
/-- A row of loops: where it lies, its room, its loops. -/
structure RwL where
  a : Option Addr
  c : Nat
  Z : List Lv
/-- A nest's lists, in the order of pianolakeep.lists, but the topmost. -/
def RelR : List Lp → List Lv → List RwL → Prop
  | [], S, Rs => S = [] ∧ Rs = []
  | ⟨t, n, bd⟩ :: r, S, Rs => ∃ s S' R1 R2, S = s :: S' ∧ Rs = R1 ++ R2 ∧ s.t = t ∧ s.n = n ∧ s.k = bd.length ∧ RelR r S' R2 ∧ ((bd = [] ∧ R1 = []) ∨ (bd ≠ [] ∧ ∃ S0 R0, R1 = R0 ++ [⟨s.a, s.c, S0⟩] ∧ S0.length = bd.length ∧ RelR bd S0 R0))
theorem rel_nil {S : List Lv} {Rs : List RwL} : RelR [] S Rs ↔ S = [] ∧ Rs = [] := by rw [RelR]
theorem rel_cons {x : Lp} {r : List Lp} {S : List Lv} {Rs : List RwL} : RelR (x :: r) S Rs ↔ ∃ s S' R1 R2, S = s :: S' ∧ Rs = R1 ++ R2 ∧ s.t = x.times ∧ s.n = x.node ∧ s.k = x.body.length ∧ RelR r S' R2 ∧ ((x.body = [] ∧ R1 = []) ∨ (x.body ≠ [] ∧ ∃ S0 R0, R1 = R0 ++ [⟨s.a, s.c, S0⟩] ∧ S0.length = x.body.length ∧ RelR x.body S0 R0)) := by
  obtain ⟨t, n, bd⟩ := x
  rw [RelR]
theorem rel_len : ∀ {l : List Lp} {S : List Lv} {Rs : List RwL}, RelR l S Rs → S.length = l.length
  | [], S, Rs, h => by rw [(rel_nil.1 h).1]; rfl
  | x :: r, S, Rs, h => by
    obtain ⟨s, S', R1, R2, rfl, -, -, -, -, h, -⟩ := rel_cons.1 h
    rw [List.length_cons, List.length_cons, rel_len h]
theorem rel_snoc {x : Lp} {s : Lv} {Q : List RwL} (h1 : s.t = x.times) (h2 : s.n = x.node) (h3 : s.k = x.body.length) (h4 : (x.body = [] ∧ Q = []) ∨ (x.body ≠ [] ∧ ∃ S0 R0, Q = R0 ++ [⟨s.a, s.c, S0⟩] ∧ S0.length = x.body.length ∧ RelR x.body S0 R0)) : ∀ {l : List Lp} {S : List Lv} {Rs : List RwL}, RelR l S Rs → RelR (l ++ [x]) (S ++ [s]) (Rs ++ Q)
  | [], S, Rs, h => by
    obtain ⟨rfl, rfl⟩ := rel_nil.1 h
    refine rel_cons.2 ⟨s, [], Q, [], rfl, by simp, h1, h2, h3, rel_nil.2 ⟨rfl, rfl⟩, h4⟩
  | y :: l, S, Rs, h => by
    obtain ⟨s', S', R1, R2, rfl, rfl, q1, q2, q3, h, q4⟩ := rel_cons.1 h
    exact rel_cons.2 ⟨s', S' ++ [s], R1, R2 ++ Q, rfl, by rw [List.append_assoc], q1, q2, q3, rel_snoc h1 h2 h3 h4 h, q4⟩
/-- Rows of a call's own that lie apart from one another, and from the row at d. -/
structure FamR (B : Nat) (w : World) (d : Option Addr) (Rs : List RwL) : Prop where
  own : ∀ r ∈ Rs, CapZ B w r.a r.c r.Z
  off : ∀ r ∈ Rs, ∀ x y, r.a = some x → d = some y → x.block ≠ y.block
  pair : Rs.Pairwise (fun r s => ∀ x y, r.a = some x → s.a = some y → x.block ≠ y.block)
theorem FamR.nil (B : Nat) (w : World) (d : Option Addr) : FamR B w d [] := ⟨fun _ h => (by cases h), fun _ h => (by cases h), List.Pairwise.nil⟩
theorem FamR.step {B : Nat} {w w' : World} {d d2 : Option Addr} {Rs : List RwL} (h : FamR B w d Rs) (hold : ∀ j, B ≤ j → j < w.heap.size → (∀ y, d = some y → y.block ≠ j) → w'.heap[j]? = w.heap[j]?) (hnew : ∀ z, d2 = some z → d = some z ∨ w.heap.size ≤ z.block) : FamR B w' d2 Rs := by
  refine ⟨fun r hr => (h.own r hr).keep fun x hx => ?_, fun r hr x y hx hy e => ?_, h.pair⟩
  · have q := (h.own r hr).lt x hx
    exact hold _ q.1 q.2 fun y hy e => h.off r hr x y hx hy e.symm
  · rcases hnew y hy with q | q
    · exact h.off r hr x y hx q e
    · have := ((h.own r hr).lt x hx).2; omega
theorem FamR.keep {B : Nat} {w w' : World} {d : Option Addr} {Rs : List RwL} (h : FamR B w d Rs) (hk : ∀ r ∈ Rs, ∀ x, r.a = some x → w'.heap[x.block]? = w.heap[x.block]?) : FamR B w' d Rs := ⟨fun r hr => (h.own r hr).keep fun x hx => hk r hr x hx, h.off, h.pair⟩
theorem FamR.later {B : Nat} {w w' : World} {d : Option Addr} {Rs : List RwL} (h : FamR B w d Rs) (hb : Below w.heap.size w w') : FamR B w' d Rs := h.step (fun j _ hj _ => hb.block j hj) fun _ hz => .inl hz
/-- The rows of a nest that was made later, behind. -/
theorem FamR.join {B B2 : Nat} {w : World} {d d2 : Option Addr} {Rs Qs : List RwL} {r : RwL} (h : FamR B w d Rs) (k : FamR B2 w d2 Qs) (hB : B ≤ B2) (hr : CapZ B2 w r.a r.c r.Z) (hd : r.a = d2) (hlt : ∀ s ∈ Rs, ∀ x, s.a = some x → x.block < B2) (hdl : ∀ y, d = some y → y.block < B2) : FamR B w d (Rs ++ (Qs ++ [r])) := by
  have low : ∀ s ∈ Qs ++ [r], ∀ x, s.a = some x → B2 ≤ x.block := fun s hs x hx => by
    rcases List.mem_append.1 hs with q | q
    · exact ((k.own s q).lt x hx).1
    · rw [List.mem_singleton.1 q] at hx
      exact (hr.lt x hx).1
  refine ⟨fun s hs => ?_, fun s hs x y hx hy e => ?_, List.pairwise_append.2 ⟨h.pair, List.pairwise_append.2 ⟨k.pair, List.pairwise_singleton .., fun s hs t ht x y hx hy => ?_⟩, fun s hs t ht x y hx hy e => ?_⟩⟩
  · rcases List.mem_append.1 hs with q | q
    · exact h.own s q
    · rcases List.mem_append.1 q with q | q
      · exact capZ_mono (k.own s q) hB
      · rw [List.mem_singleton.1 q]; exact capZ_mono hr hB
  · rcases List.mem_append.1 hs with q | q
    · exact h.off s q x y hx hy e
    · have := low s q x hx; have := hdl y hy; omega
  · rw [List.mem_singleton.1 ht, hd] at hy
    exact k.off s hs x y hx hy
  · have := hlt s hs x hx; have := low t ht y hy; omega
/-- What LentLoops gives. -/
structure LtdZ (B : Nat) (w : World) (g c : Nat) (l : List Lp) : Prop where
  lo : B ≤ g
  hi : g < w.heap.size
  cap : l.length + 1 ≤ c
  nst : NstR (fun k => B ≤ k ∧ TyZ w k) true w g 0 l
  row : ∃ S, CapZ B w (some ⟨g, 0, none⟩) c S ∧ MchZ (fun k => B ≤ k ∧ TyZ w k ∧ k ≠ g) true w S l
  fam : ∃ S Rs, CapZ B w (some ⟨g, 0, none⟩) c S ∧ RelR l S Rs ∧ FamR B w (some ⟨g, 0, none⟩) Rs
theorem LtdZ.later {B : Nat} {w w' : World} {g c : Nat} {l : List Lp} (h : LtdZ B w g c l) (hb : Below w.heap.size w w') : LtdZ B w' g c l :=
  ⟨h.lo, Nat.lt_of_lt_of_le h.hi hb.size, h.cap, NstR.mono (fun k hk => ⟨hk.1, hk.2.keep (hb.block k hk.2.lt)⟩) _ _ _ (NstR.keep (fun k hk => hb.block k hk.2.lt) _ _ _ h.nst), by
    obtain ⟨S, h1, h2⟩ := h.row
    exact ⟨S, h1.later hb, MchZ.mono (fun k hk => ⟨hk.1, hk.2.1.keep (hb.block k hk.2.1.lt), hk.2.2⟩) (MchZ.keep (fun k hk => hb.block k hk.2.1.lt) h2)⟩, by
    obtain ⟨S, Rs, h1, h2, h3⟩ := h.fam
    exact ⟨S, Rs, h1.later hb, h2, h3.later hb⟩⟩
theorem LtdZ.bare {B : Nat} {w : World} {g c : Nat} {l : List Lp} (h : LtdZ B w g c l) : Nst (· < w.heap.size) true w (some ⟨g, 0, none⟩) l := .inr ⟨g, 0, rfl, NstR.mono (fun _ hk => hk.2.lt) _ _ _ h.nst⟩
def LenE (l : List Lp) (w : World) (e : Ending) (w' : World) : Prop := ∃ g c, e = .returned (.slice (some ⟨g, 0, none⟩) l.length c) ∧ LtdZ w.heap.size w' g c l ∧ Below w.heap.size w w'
def LenOK (l : List Lp) : Prop := ∀ (B : Nat) (m : Bool) (a : Option Addr) (c : Nat) (w : World), Nst (· < B) m w a l → B ≤ w.heap.size → sizZ l ≤ 1000000 → Calls Try.prog 11 #[.slice a l.length c] w (LenE l w)
set_option maxRecDepth 100000 in
set_option maxHeartbeats 16000000 in
theorem lentZ_any (l : List Lp) : LenOK l := by
  refine nest_ind (fun l ih => ?_) l
  intro B m a c w hN hBs hs
  obtain ⟨RE, hRE⟩ : ∃ Q : Ending → World → Prop, LenE l w = Q := ⟨_, rfl⟩
  rw [hRE]
  have HRE := hiddenN hRE
  have IH := hiddenN ih
  have HSZ := hiddenN hs
  obtain ⟨L, hL⟩ : ∃ L, l.length = L := ⟨_, rfl⟩
  have hLm : L ≤ 1000000 := by have := len_siz l; omega
  have hLI : (L : Int) ≤ 1000000 := by omega
  have HL := hiddenN hL
  have N0 := hiddenN (NsK.start hN)
  obtain ⟨g0, hg0⟩ : ∃ q, w.heap.size = q := ⟨_, rfl⟩
  have HG0 := hiddenN hg0
  rw [hL]
  have hBg : B ≤ g0 := by omega
  have hg0' : g0 ≤ w.heap.size := by omega
  clear hRE ih hN hL hs hg0 hBs
  go_enter Try.func11, Try.ntmps11
  go_upto_region 3 with fail
  go_loopg [3, 4] L (fun gk ov iv wr => ∃ (pre rest : List Lp) (k : Nat) (S : List Lv) (d : Option Addr) (n cc : Nat) (Rs : List RwL), l = pre ++ rest ∧ pre.length = k ∧ gk = rest.length ∧ iv = .int .i64 (k : Int) ∧ ov = .slice d n cc ∧ S.length = n ∧ CapZ g0 wr d cc S ∧ MchZ (fun j => g0 ≤ j ∧ TyZ wr j ∧ ∀ y, d = some y → y.block ≠ j) true wr S pre ∧ Below g0 w wr ∧ NsK (· < B) m wr a k rest ∧ RelR pre S Rs ∧ FamR g0 wr d Rs)
  case atStart => exact ⟨[], l, 0, [], none, 0, 0, [], rfl, rfl, HL.out.symm, rfl, rfl, rfl, CapZ.nil _ _, trivial, Below.refl _ _, N0.out, rel_nil.2 ⟨rfl, rfl⟩, FamR.nil _ _ _⟩
  case round =>
    clear N0
    obtain ⟨pre, rest, k, S, d, n, cc, Rs, hl, hk, hgk, rfl, rfl, hSn, hC, hM, hb, hNs, hRl, hFm⟩ := hrel
    have HRl := hiddenN hRl
    have HFm := hiddenN hFm
    subst hgk
    have HB := hiddenN hb
    have HC := hiddenN hC
    have HM := hiddenN hM
    have NS := hiddenN hNs
    have HL2 := hiddenN hl
    have HPK := hiddenN hk
    have HSN := hiddenN hSn
    have hnk : n = k := by rw [← hSn, hM.len, hk]
    have HNK := hiddenN hnk
    have HLK : Hid (L = k + rest.length) := by show _ = _; rw [← HL.out, hl, List.length_append, hk]
    have hgw : g0 ≤ wr.heap.size := Nat.le_trans hg0' hb.size
    have hn6 : n ≤ 1000000 := by have := HLK.out; omega
    have hnI : (n : Int) ≤ 1000000 := by omega
    clear hl hk hb hC hM hNs hSn hnk hRl hFm
    cases rest with
    | nil =>
      have hki : ¬ ((k : Int) < (L : Int)) := by rw [HLK.out]; simp
      have e1 : pre = l := by rw [HL2.out, List.append_nil]
      rw [e1] at HM HRl
      have bA := (Below.refl wr.heap.size wr).alloc (Nat.le_refl _) (.cells #[.int .i64 (-7770777), .int .i64 0, .slice none 0 0] 57)
      have CA := hiddenN (HC.out.later bA)
      have XA := hiddenN (blkA_new 57 wr #[.int .i64 (-7770777), .int .i64 0, .slice none 0 0])
      have u0 := XA.out.cell (k := 0) rfl
      have u1 := XA.out.cell (k := 1) rfl
      have u2 := XA.out.cell (k := 2) rfl
      simp only [List.getElem_toArray, List.getElem_cons_zero, List.getElem_cons_succ] at u0 u1 u2
      have hBA : g0 ≤ (wr.alloc (.cells #[.int .i64 (-7770777), .int .i64 0, .slice none 0 0] 57)).heap.size := Nat.le_trans hgw bA.size
      have BA := hiddenN bA
      have HLn : Hid (L = n) := by show _ = _; have := HLK.out; have := HNK.out; simp at *; omega
      clear bA e1
      go_upto_region 10 with (at_builtin; refine wpList_appZ rfl _ _ rfl g0 d cc S n HSN.out rfl CA.out wr.heap.size ⟨-7770777, 0, none, 0, 0⟩ rfl u0 u1 u2 (by omega) hBA ?_; intro d2 c2 W9 hg2; have HG := hiddenN hg2; clear hg2)
      obtain ⟨g2, rfl⟩ := HG.out.own.there (by simp)
      have hcap := HG.out.own.room
      rw [List.length_append, HSN.out, List.length_singleton] at hcap
      have hc1 : n + 1 ≤ c2 := hcap
      have hLc : L ≤ c2 := by have := HLn.out; omega
      have hLcI : (L : Int) ≤ (c2 : Int) := by omega
      clear hcap
      go_wp2
      rw [← HRE.out]
      have hb9 : Below g0 wr W9 := (BA.out.mono hgw).trans (HG.out.below (fun y hy => (CA.out.lt y hy).1) hBA)
      have hlt2 := HG.out.own.lt _ rfl
      have hk9 : ∀ j, (g0 ≤ j ∧ TyZ wr j ∧ ∀ y, d = some y → y.block ≠ j) → W9.heap[j]? = wr.heap[j]? := fun j hj => (HG.out.keep j (Nat.lt_of_lt_of_le hj.2.1.lt BA.out.size) hj.2.2).trans (BA.out.block j hj.2.1.lt)
      have hj9 : ∀ j, (g0 ≤ j ∧ TyZ wr j ∧ ∀ y, d = some y → y.block ≠ j) → j ≠ g2 := fun j hj e => by
        rcases HG.out.new _ rfl with h | h
        · exact hj.2.2 _ h e.symm
        · have q1 := hj.2.1.lt
          have q2 := BA.out.size
          have q3 : (wr.alloc (.cells #[.int .i64 (-7770777), .int .i64 0, .slice none 0 0] 57)).heap.size ≤ g2 := h
          omega
      refine ⟨g2, c2, by rw [HL.out], ⟨by rw [HG0.out]; exact hlt2.1, hlt2.2, by rw [HL.out, HLn.out]; exact hc1, ?_, ?_, ?_⟩, by rw [HG0.out]; exact HB.out.trans hb9⟩
      rotate_left
      · rw [HG0.out]
        exact ⟨S, CapZ.pre HG.out.own, MchZ.mono (fun j hj => ⟨hj.1, hj.2.1.keep (hk9 j hj), hj9 j hj⟩) (MchZ.keep hk9 HM.out)⟩
      · rw [HG0.out]
        exact ⟨S, Rs, CapZ.pre HG.out.own, HRl.out, HFm.out.step (fun j _ hj hne => (HG.out.keep j (Nat.lt_of_lt_of_le hj BA.out.size) hne).trans (BA.out.block j hj)) fun z hz => (HG.out.new z hz).imp id fun q => Nat.le_trans BA.out.size q⟩
      rw [HG0.out]
      refine nst_of_row (F := fun k => g0 ≤ k ∧ TyZ W9 k) (m := true) (b := g2) (S := S) ⟨hlt2.1, HG.out.own.ty⟩ (MchZ.mono (fun j hj => ⟨hj.1, hj.2.1.keep (hk9 j hj)⟩) (MchZ.keep hk9 HM.out)) (fun k hk j hj => ?_) (fun _ => ?_)
      · have := HG.out.own.cell (k := k) (j := j) (by rw [List.length_append]; omega) hj
        rw [Nat.zero_add, this]
        unfold nthZ
        rw [List.getD_eq_getElem?_getD, List.getD_eq_getElem?_getD, List.getElem?_append_left hk]
      · have := HG.out.own.cell (k := S.length) (j := 0) (by simp) (by decide)
        rw [Nat.add_zero] at this
        rw [Nat.zero_add, this]
        unfold nthZ
        rw [List.getD_eq_getElem?_getD, List.getElem?_append_right (Nat.le_refl _), Nat.sub_self]
        rfl
    | cons x r =>
      have hki : (k : Int) < (L : Int) := by rw [HLK.out]; simp; omega
      have hkL : k < L := by rw [HLK.out]; simp
      have hkm : (k : Int) ≤ 1000000 := by omega
      obtain ⟨b, o, a1, c1, rfl, q0, q1, q2, q3⟩ := NS.out.hd
      have hmem : x ∈ l := by rw [HL2.out]; exact List.mem_append_right _ (List.mem_cons_self ..)
      obtain ⟨L1, hL1⟩ : ∃ q, x.body.length = q := ⟨_, rfl⟩
      obtain ⟨tx, htx⟩ : ∃ q, x.times = q := ⟨_, rfl⟩
      obtain ⟨nx, hnx⟩ : ∃ q, x.node = q := ⟨_, rfl⟩
      rw [htx] at q0
      rw [hnx] at q1
      rw [hL1] at q2
      have b1 := (Below.refl wr.heap.size wr).alloc (Nat.le_refl _) (.cells #[.int .i64 tx, .int .i64 nx, .slice a1 L1 c1] 57)
      have X1 := hiddenN (blkA_new 57 wr #[.int .i64 tx, .int .i64 nx, .slice a1 L1 c1])
      have hxb : ∀ y, d = some y → y.block ≠ wr.heap.size := fun y hy e => by have := (HC.out.lt y hy).2; omega
      have LB : Hid (L1 ≠ 0 → Calls Try.prog 11 #[.slice a1 L1 c1] (wr.alloc (.cells #[.int .i64 tx, .int .i64 nx, .slice a1 L1 c1] 57)) (LenE x.body (wr.alloc (.cells #[.int .i64 tx, .int .i64 nx, .slice a1 L1 c1] 57)))) := fun _ => by
        have h1 := siz_mem hmem
        have := IH.out x hmem B m a1 c1 (wr.alloc (.cells #[.int .i64 tx, .int .i64 nx, .slice a1 L1 c1] 57)) (q3.below (b1.mono (Nat.le_trans hBg hgw))) (Nat.le_trans (Nat.le_trans hBg hgw) b1.size) (by have := HSZ.out; omega)
        rwa [hL1] at this
      have HB1 := hiddenN (HB.out.trans (b1.mono hgw))
      have HC1 := hiddenN (HC.out.later b1)
      have HM1 := hiddenN ((HM.out.keep (fun j hj => b1.block j hj.2.1.lt)).mono (G := fun j => g0 ≤ j ∧ TyZ (wr.alloc (.cells #[.int .i64 tx, .int .i64 nx, .slice a1 L1 c1] 57)) j ∧ (∀ y, d = some y → y.block ≠ j) ∧ j ≠ wr.heap.size) fun j hj => ⟨hj.1, hj.2.1.keep (b1.block j hj.2.1.lt), hj.2.2, by have := hj.2.1.lt; omega⟩)
      have NS1 := hiddenN (NS.out.tl.below (b1.mono (Nat.le_trans hBg hgw)))
      have hgw1 : g0 ≤ (wr.alloc (.cells #[.int .i64 tx, .int .i64 nx, .slice a1 L1 c1] 57)).heap.size := Nat.le_trans hgw b1.size
      have y0 := X1.out.cell (k := 0) rfl
      have y1 := X1.out.cell (k := 1) rfl
      have y2 := X1.out.cell (k := 2) rfl
      simp only [List.getElem_toArray, List.getElem_cons_zero, List.getElem_cons_succ] at y0 y1 y2
      have HTX := hiddenN htx
      have HNX := hiddenN hnx
      have HL1 := hiddenN hL1
      have HXB := hiddenN hxb
      have HGX := hiddenN hgw
      have FM1 := hiddenN (HFm.out.later b1)
      have HLR : Hid (∀ r ∈ Rs, ∀ x, r.a = some x → x.block < wr.heap.size) := fun r hr x hx => ((HFm.out.own r hr).lt x hx).2
      clear HFm
      clear b1 q3 hmem hL1 htx hnx HM HC HB NS hxb
      go_upto_region 6 with fail
      obtain ⟨xb, hxE⟩ : ∃ q, wr.heap.size = q := ⟨_, rfl⟩
      rw [hxE] at y0 y1 y2 X1 HM1 HXB HGX HLR ⊢
      clear hxE q0 q1 q2 hgw
      generalize wr.alloc (.cells #[.int .i64 tx, .int .i64 nx, .slice a1 L1 c1] 57) = W1 at *
      by_cases hz : L1 = 0
      · subst hz
        have hbd : x.body = [] := List.eq_nil_of_length_eq_zero HL1.out
        have MX : Hid (tx = x.times ∧ nx = x.node ∧ 0 = x.body.length ∧ (x.body = [] ∨ ∃ b o, a1 = some ⟨b, o, none⟩ ∧ x.body.length + 1 ≤ c1 ∧ NstR (fun j => g0 ≤ j ∧ TyZ W1 j ∧ ∀ y, d = some y → y.block ≠ j) true W1 b o x.body)) := ⟨HTX.out.symm, HNX.out.symm, HL1.out.symm, .inl hbd⟩
        have CW := HC1
        have MW := hiddenN (HM1.out.mono (G := fun j => g0 ≤ j ∧ TyZ W1 j ∧ ∀ y, d = some y → y.block ≠ j) fun j hj => ⟨hj.1, hj.2.1, hj.2.2.1⟩)
        have NW := NS1
        have BWW := hiddenN hgw1
        have BW0 := HB1
        have HBD := hiddenN hbd
        have FWW : Hid (FamR g0 W1 d (Rs ++ [])) := by show FamR _ _ _ _; rw [List.append_nil]; exact FM1.out
        clear hbd LB HM1
        go_upto_region 8 with fail
        clear y0 y1 y2
        have y0 := X1.out.cell (k := 0) rfl
        have y1 := X1.out.cell (k := 1) rfl
        have y2 := X1.out.cell (k := 2) rfl
        simp only [List.getElem_toArray, List.getElem_cons_zero, List.getElem_cons_succ] at y0 y1 y2
        have bA := (Below.refl W1.heap.size W1).alloc (Nat.le_refl _) (.cells #[.int .i64 tx, .int .i64 nx, .slice a1 0 c1] 57)
        have CA := hiddenN (CW.out.later bA)
        have XA := hiddenN (blkA_new 57 W1 #[.int .i64 tx, .int .i64 nx, .slice a1 0 c1])
        have u0 := XA.out.cell (k := 0) rfl
        have u1 := XA.out.cell (k := 1) rfl
        have u2 := XA.out.cell (k := 2) rfl
        simp only [List.getElem_toArray, List.getElem_cons_zero, List.getElem_cons_succ] at u0 u1 u2
        have hBA : g0 ≤ (W1.alloc (.cells #[.int .i64 tx, .int .i64 nx, .slice a1 0 c1] 57)).heap.size := Nat.le_trans BWW.out bA.size
        have BA := hiddenN bA
        clear bA
        go_wp2_with (at_builtin; refine wpList_appZ rfl _ _ rfl g0 d cc S n HSN.out rfl CA.out W1.heap.size ⟨tx, nx, a1, 0, c1⟩ rfl u0 u1 u2 (by omega) hBA ?_; intro d2 c2 W9 hg2; have HG := hiddenN hg2; clear hg2)
        have hold : ∀ j, g0 ≤ j → j < W1.heap.size → (∀ y, d = some y → y.block ≠ j) → W9.heap[j]? = W1.heap[j]? := fun j _ hj hne => (HG.out.keep j (Nat.lt_of_lt_of_le hj BA.out.size) hne).trans (BA.out.block j hj)
        have hb9 : Below g0 W1 W9 := (BA.out.mono BWW.out).trans (HG.out.below (fun y hy => (CA.out.lt y hy).1) hBA)
        have M9 : Hid (MchZ (fun j => g0 ≤ j ∧ TyZ W9 j ∧ ∀ y, d2 = some y → y.block ≠ j) true W9 (S ++ [⟨tx, nx, a1, 0, c1⟩]) (pre ++ [x])) := by
          have hk : ∀ j, (g0 ≤ j ∧ TyZ W1 j ∧ ∀ y, d = some y → y.block ≠ j) → W9.heap[j]? = W1.heap[j]? := fun j hj => hold j hj.1 hj.2.1.lt hj.2.2
          refine MchZ.mono (fun j hj => ⟨hj.1, hj.2.1.keep (hk j hj), fun y hy e => ?_⟩) (MchZ.keep hk (MchZ.snoc (s := ⟨tx, nx, a1, 0, c1⟩) ⟨MX.out.1, MX.out.2.1, MX.out.2.2.1, MX.out.2.2.2.imp id fun ⟨b, o, h1, h2, h3⟩ => ⟨b, o, h1, fun _ => h2, h3⟩⟩ MW.out))
          rcases HG.out.new y hy with h | h
          · exact hj.2.2 y h e
          · have := hj.2.1.lt; have := BA.out.size; omega
        go_roundg r.length
        case measure => simp
        case rel => exact ⟨pre ++ [x], r, k + 1, S ++ [⟨tx, nx, a1, 0, c1⟩], d2, n + 1, c2, Rs ++ [], by rw [HL2.out]; simp, by rw [List.length_append, HPK.out]; rfl, rfl, by go_num, rfl, by rw [List.length_append, HSN.out]; rfl, HG.out.own, M9.out, BW0.out.trans hb9, NW.out.keep fun j hj => hb9.block j (Nat.lt_of_lt_of_le hj hBg), rel_snoc (s := ⟨tx, nx, a1, 0, c1⟩) (Q := []) MX.out.1 MX.out.2.1 MX.out.2.2.1 (.inl ⟨HBD.out, rfl⟩) HRl.out, FWW.out.step hold fun z hz => (HG.out.new z hz).imp id fun q => Nat.le_trans BA.out.size q⟩
      · have hzI : (L1 : Int) > 0 := by omega
        have LB1 := hiddenN (LB.out hz)
        unfold LenE at LB1
        clear LB
        go_upto_region 8 with (go_at_call 11; (with_reducible refine LB1.out.mono ?_); clear LB1; rintro e W2 ⟨g1, cc1, rfl, hl2, b2⟩; have HLT := hiddenN hl2; have B2 := hiddenN b2; have X2 := hiddenN (X1.out.below b2); have z2 := X2.out.cell (k := 2) rfl; have f2 := X2.out.frozen 2; simp only [List.getElem_toArray, List.getElem_cons_zero, List.getElem_cons_succ] at z2; clear hl2 b2)
        rw [HL1.out]
        have hxW : xb < W1.heap.size := X1.out.lt
        have b3 := But.set W2 xb 2 (.slice (some ⟨g1, 0, none⟩) L1 cc1)
        have X3 : Hid (BlkA 57 xb (W2.setCell ⟨xb, 2, none⟩ (.slice (some ⟨g1, 0, none⟩) L1 cc1)) #[.int .i64 tx, .int .i64 nx, .slice (some ⟨g1, 0, none⟩) L1 cc1]) := X2.out.set 2 _
        have hk3 : ∀ j, j < W1.heap.size → j ≠ xb → (W2.setCell ⟨xb, 2, none⟩ (.slice (some ⟨g1, 0, none⟩) L1 cc1)).heap[j]? = W1.heap[j]? := fun j hj hne => (b3.block j (Nat.lt_of_lt_of_le hj B2.out.size) hne).trans (B2.out.block j hj)
        have hgx : g0 ≤ xb := HGX.out
        have BWW : Hid (g0 ≤ (W2.setCell ⟨xb, 2, none⟩ (.slice (some ⟨g1, 0, none⟩) L1 cc1)).heap.size) := Nat.le_trans hgw1 (Nat.le_trans B2.out.size b3.size)
        have hB3 : Below g0 W1 (W2.setCell ⟨xb, 2, none⟩ (.slice (some ⟨g1, 0, none⟩) L1 cc1)) := (B2.out.mono hgw1).trans (b3.below hgx (Nat.le_trans hgw1 B2.out.size))
        have BW0 := hiddenN (HB1.out.trans hB3)
        have NW : Hid (NsK (· < B) m (W2.setCell ⟨xb, 2, none⟩ (.slice (some ⟨g1, 0, none⟩) L1 cc1)) (some ⟨b, o, none⟩) (k + 1) r) := NS1.out.keep fun j hj => hB3.block j (Nat.lt_of_lt_of_le hj hBg)
        have CW : Hid (CapZ g0 (W2.setCell ⟨xb, 2, none⟩ (.slice (some ⟨g1, 0, none⟩) L1 cc1)) d cc S) := HC1.out.keep fun y hy => hk3 _ (HC1.out.lt y hy).2 (HXB.out y hy)
        have MW : Hid (MchZ (fun j => g0 ≤ j ∧ TyZ (W2.setCell ⟨xb, 2, none⟩ (.slice (some ⟨g1, 0, none⟩) L1 cc1)) j ∧ ∀ y, d = some y → y.block ≠ j) true (W2.setCell ⟨xb, 2, none⟩ (.slice (some ⟨g1, 0, none⟩) L1 cc1)) S pre) := (HM1.out.keep (fun j hj => hk3 j hj.2.1.lt hj.2.2.2)).mono fun j hj => ⟨hj.1, hj.2.1.keep (hk3 j hj.2.1.lt hj.2.2.2), hj.2.2.1⟩
        have MX : Hid (tx = x.times ∧ nx = x.node ∧ L1 = x.body.length ∧ (x.body = [] ∨ ∃ b o, (some ⟨g1, 0, none⟩ : Option Addr) = some ⟨b, o, none⟩ ∧ x.body.length + 1 ≤ cc1 ∧ NstR (fun j => g0 ≤ j ∧ TyZ (W2.setCell ⟨xb, 2, none⟩ (.slice (some ⟨g1, 0, none⟩) L1 cc1)) j ∧ ∀ y, d = some y → y.block ≠ j) true (W2.setCell ⟨xb, 2, none⟩ (.slice (some ⟨g1, 0, none⟩) L1 cc1)) b o x.body)) := by
          have hk4 : ∀ j, (W1.heap.size ≤ j ∧ TyZ W2 j) → (W2.setCell ⟨xb, 2, none⟩ (.slice (some ⟨g1, 0, none⟩) L1 cc1)).heap[j]? = W2.heap[j]? := fun j hj => b3.block j hj.2.lt (by omega)
          refine ⟨HTX.out.symm, HNX.out.symm, HL1.out.symm, .inr ⟨g1, 0, rfl, HLT.out.cap, ?_⟩⟩
          exact NstR.mono (fun j hj => ⟨Nat.le_trans hgw1 hj.1, hj.2.keep (hk4 j hj), fun y hy e => by have := (HC1.out.lt y hy).2; omega⟩) _ _ _ (NstR.keep hk4 _ _ _ HLT.out.nst)
        obtain ⟨S1, R1, q1, q2, q3⟩ := HLT.out.fam
        have hk5 : ∀ j, W1.heap.size ≤ j → j < W2.heap.size → (W2.setCell ⟨xb, 2, none⟩ (.slice (some ⟨g1, 0, none⟩) L1 cc1)).heap[j]? = W2.heap[j]? := fun j h1 h2 => b3.block j h2 (by omega)
        have RX : Hid ((x.body = [] ∧ R1 ++ [⟨some ⟨g1, 0, none⟩, cc1, S1⟩] = []) ∨ (x.body ≠ [] ∧ ∃ S0 R0, R1 ++ [⟨some ⟨g1, 0, none⟩, cc1, S1⟩] = R0 ++ [⟨some ⟨g1, 0, none⟩, cc1, S0⟩] ∧ S0.length = x.body.length ∧ RelR x.body S0 R0)) := .inr ⟨fun e => hz (by rw [← HL1.out, e]; rfl), S1, R1, rfl, rel_len q2, q2⟩
        have FWW : Hid (FamR g0 (W2.setCell ⟨xb, 2, none⟩ (.slice (some ⟨g1, 0, none⟩) L1 cc1)) d (Rs ++ (R1 ++ [⟨some ⟨g1, 0, none⟩, cc1, S1⟩]))) := by
          refine FamR.join (B2 := W1.heap.size) (d2 := some ⟨g1, 0, none⟩) (FM1.out.keep fun r hr x hx => hk3 _ ((FM1.out.own r hr).lt x hx).2 (by have := HLR.out r hr x hx; omega)) (q3.keep fun r hr x hx => hk5 _ ((q3.own r hr).lt x hx).1 ((q3.own r hr).lt x hx).2) hgw1 (q1.keep fun x hx => hk5 _ (q1.lt x hx).1 (q1.lt x hx).2) rfl (fun r hr x hx => by have := HLR.out r hr x hx; omega) (fun y hy => (HC1.out.lt y hy).2)
        clear q1 q2 q3 hk5
        clear y0 y1 y2 z2 f2 b3 hk3 hB3
        generalize W2.setCell ⟨xb, 2, none⟩ (.slice (some ⟨g1, 0, none⟩) L1 cc1) = W3 at *
        have y0 := X3.out.cell (k := 0) rfl
        have y1 := X3.out.cell (k := 1) rfl
        have y2 := X3.out.cell (k := 2) rfl
        simp only [List.getElem_toArray, List.getElem_cons_zero, List.getElem_cons_succ] at y0 y1 y2
        have bA := (Below.refl W3.heap.size W3).alloc (Nat.le_refl _) (.cells #[.int .i64 tx, .int .i64 nx, .slice (some ⟨g1, 0, none⟩) L1 cc1] 57)
        have CA := hiddenN (CW.out.later bA)
        have XA := hiddenN (blkA_new 57 W3 #[.int .i64 tx, .int .i64 nx, .slice (some ⟨g1, 0, none⟩) L1 cc1])
        have u0 := XA.out.cell (k := 0) rfl
        have u1 := XA.out.cell (k := 1) rfl
        have u2 := XA.out.cell (k := 2) rfl
        simp only [List.getElem_toArray, List.getElem_cons_zero, List.getElem_cons_succ] at u0 u1 u2
        have hBA : g0 ≤ (W3.alloc (.cells #[.int .i64 tx, .int .i64 nx, .slice (some ⟨g1, 0, none⟩) L1 cc1] 57)).heap.size := Nat.le_trans BWW.out bA.size
        have BA := hiddenN bA
        clear bA
        go_wp2_with (at_builtin; refine wpList_appZ rfl _ _ rfl g0 d cc S n HSN.out rfl CA.out W3.heap.size ⟨tx, nx, (some ⟨g1, 0, none⟩), L1, cc1⟩ rfl u0 u1 u2 (by omega) hBA ?_; intro d2 c2 W9 hg2; have HG := hiddenN hg2; clear hg2)
        have hold : ∀ j, g0 ≤ j → j < W3.heap.size → (∀ y, d = some y → y.block ≠ j) → W9.heap[j]? = W3.heap[j]? := fun j _ hj hne => (HG.out.keep j (Nat.lt_of_lt_of_le hj BA.out.size) hne).trans (BA.out.block j hj)
        have hb9 : Below g0 W3 W9 := (BA.out.mono BWW.out).trans (HG.out.below (fun y hy => (CA.out.lt y hy).1) hBA)
        have M9 : Hid (MchZ (fun j => g0 ≤ j ∧ TyZ W9 j ∧ ∀ y, d2 = some y → y.block ≠ j) true W9 (S ++ [⟨tx, nx, (some ⟨g1, 0, none⟩), L1, cc1⟩]) (pre ++ [x])) := by
          have hk : ∀ j, (g0 ≤ j ∧ TyZ W3 j ∧ ∀ y, d = some y → y.block ≠ j) → W9.heap[j]? = W3.heap[j]? := fun j hj => hold j hj.1 hj.2.1.lt hj.2.2
          refine MchZ.mono (fun j hj => ⟨hj.1, hj.2.1.keep (hk j hj), fun y hy e => ?_⟩) (MchZ.keep hk (MchZ.snoc (s := ⟨tx, nx, (some ⟨g1, 0, none⟩), L1, cc1⟩) ⟨MX.out.1, MX.out.2.1, MX.out.2.2.1, MX.out.2.2.2.imp id fun ⟨b, o, h1, h2, h3⟩ => ⟨b, o, h1, fun _ => h2, h3⟩⟩ MW.out))
          rcases HG.out.new y hy with h | h
          · exact hj.2.2 y h e
          · have := hj.2.1.lt; have := BA.out.size; omega
        go_roundg r.length
        case measure => simp
        case rel => exact ⟨pre ++ [x], r, k + 1, S ++ [⟨tx, nx, (some ⟨g1, 0, none⟩), L1, cc1⟩], d2, n + 1, c2, Rs ++ (R1 ++ [⟨some ⟨g1, 0, none⟩, cc1, S1⟩]), by rw [HL2.out]; simp, by rw [List.length_append, HPK.out]; rfl, rfl, by go_num, rfl, by rw [List.length_append, HSN.out]; rfl, HG.out.own, M9.out, BW0.out.trans hb9, NW.out.keep fun j hj => hb9.block j (Nat.lt_of_lt_of_le hj hBg), rel_snoc (s := ⟨tx, nx, (some ⟨g1, 0, none⟩), L1, cc1⟩) MX.out.1 MX.out.2.1 MX.out.2.2.1 RX.out HRl.out, FWW.out.step hold fun z hz => (HG.out.new z hz).imp id fun q => Nat.le_trans BA.out.size q⟩
/-- Loops as they lie. -/
def AtZ (w : World) (a : Option Addr) (Z : List Lv) : Prop := Z = [] ∨ ∃ g, a = some ⟨g, 0, none⟩ ∧ ∀ k, k < Z.length → ∀ j, j < 3 → w.cell? ⟨g, k * 3 + j, none⟩ = some (celZ (nthZ Z k) j)
theorem CapZ.atZ {B : Nat} {w : World} {a : Option Addr} {c : Nat} {Z : List Lv} (h : CapZ B w a c Z) : AtZ w a Z := by
  by_cases h0 : Z = []
  · exact .inl h0
  · obtain ⟨g, rfl⟩ := h.there h0
    exact .inr ⟨g, rfl, fun k hk j hj => h.cell hk hj⟩
theorem AtZ.block {w w' : World} {a : Option Addr} {Z : List Lv} (h : AtZ w a Z) (hb : ∀ x, a = some x → w'.heap[x.block]? = w.heap[x.block]?) : AtZ w' a Z := by
  rcases h with h | ⟨g, rfl, hc⟩
  · exact .inl h
  · refine .inr ⟨g, rfl, fun k hk j hj => ?_⟩
    rw [World.cell?_of_block (w := w) (w' := w') (a := ⟨g, k * 3 + j, none⟩) (hb ⟨g, 0, none⟩ rfl)]
    exact hc k hk j hj
theorem nthZ_left {Z T : List Lv} {k : Nat} (h : k < Z.length) : nthZ (Z ++ T) k = nthZ Z k := by
  unfold nthZ
  rw [List.getD_eq_getElem?_getD, List.getD_eq_getElem?_getD, List.getElem?_append_left h]
theorem nthZ_right {Z T : List Lv} {k : Nat} : nthZ (Z ++ T) (Z.length + k) = nthZ T k := by
  unfold nthZ
  rw [List.getD_eq_getElem?_getD, List.getD_eq_getElem?_getD, List.getElem?_append_right (by omega)]
  congr 2
  omega
theorem AtZ.prefix {w : World} {a : Option Addr} {Z T : List Lv} (h : AtZ w a (Z ++ T)) : AtZ w a Z := by
  rcases h with h | ⟨g, rfl, hc⟩
  · exact .inl (List.append_eq_nil_iff.1 h).1
  · refine .inr ⟨g, rfl, fun k hk j hj => ?_⟩
    have := hc k (by rw [List.length_append]; omega) j hj
    rwa [nthZ_left hk] at this
/-! ### marks -/
def mkL (i k : Nat) : Lv := ⟨(i : Int), (k : Int), none, 0, 0⟩
def mtL (i k : Nat) : Lv := ⟨-(i : Int) - 1, (k : Int), none, 0, 0⟩
def tailsL (i c : Nat) : List Lv := (List.range c).map (mtL i)
theorem tailsL_len (i c : Nat) : (tailsL i c).length = c := by simp [tailsL]
theorem tailsL_succ (i c : Nat) : tailsL i (c + 1) = tailsL i c ++ [mtL i c] := by simp [tailsL, List.range_succ]
theorem nth_tailsL {i c k : Nat} (h : k < c) : nthZ (tailsL i c) k = mtL i k := by
  unfold nthZ tailsL
  rw [List.getD_eq_getElem?_getD, List.getElem?_map, List.getElem?_range h]
  rfl
theorem nthZ_set_eq {Z : List Lv} {k : Nat} {v : Lv} (h : k < Z.length) : nthZ (Z.set k v) k = v := by
  unfold nthZ
  rw [List.getD_eq_getElem?_getD, List.getElem?_set_self h]
  rfl
theorem nthZ_set_ne {Z : List Lv} {k j : Nat} {v : Lv} (h : k ≠ j) : nthZ (Z.set k v) j = nthZ Z j := by
  unfold nthZ
  rw [List.getD_eq_getElem?_getD, List.getD_eq_getElem?_getD, List.getElem?_set_ne h]
/-- A loop is stored into a row. -/
def put3 (w : World) (g k : Nat) (x : Lv) : World := ((w.setCell ⟨g, k * 3, none⟩ (.int .i64 x.t)).setCell ⟨g, k * 3 + 1, none⟩ (.int .i64 x.n)).setCell ⟨g, k * 3 + 2, none⟩ (.slice x.a x.k x.c)
theorem put3_but (w : World) (g k : Nat) (x : Lv) : But g w (put3 w g k x) := ((But.set w g _ _).trans (But.set _ g _ _)).trans (But.set _ g _ _)
theorem flatZ_setk : ∀ (Z : List Lv) (k : Nat) (x : Lv), k < Z.length → (((flatZ Z).set (k * 3) (.int .i64 x.t)).set (k * 3 + 1) (.int .i64 x.n)).set (k * 3 + 2) (.slice x.a x.k x.c) = flatZ (Z.set k x) := by
  intro Z k x hk
  have e := List.take_append_drop k Z
  have ed : Z.drop k = Z[k] :: Z.drop (k + 1) := List.drop_eq_getElem_cons hk
  rw [ed] at e
  have hl : (Z.take k).length = k := by rw [List.length_take]; omega
  have h1 := flatZ_set (Z.take k) x (Z.drop (k + 1)) Z[k]
  rw [e, hl] at h1
  rw [h1]
  congr 1
  rw [List.set_eq_take_append_cons_drop, if_pos hk]
theorem CapZ.put {B : Nat} {w : World} {g c : Nat} {Z : List Lv} (h : CapZ B w (some ⟨g, 0, none⟩) c Z) {k : Nat} (hk : k < Z.length) (x : Lv) : CapZ B (put3 w g k x) (some ⟨g, 0, none⟩) c (Z.set k x) := by
  have h1 := (World.ownsRow.stored h (k * 3) (.int .i64 x.t)).1
  have h2 := (World.ownsRow.stored h1 (k * 3 + 1) (.int .i64 x.n)).1
  have h3 := (World.ownsRow.stored h2 (k * 3 + 2) (.slice x.a x.k x.c)).1
  rw [flatZ_setk Z k x hk] at h3
  unfold CapZ
  rw [List.length_set]
  exact h3
/-- The family, while it is marked. -/
structure ApAL (B n G : Nat) (w wr : World) (A : Nat → Option Addr) (L C : Nat → Nat) (Z : Nat → List Lv) : Prop where
  rows : ∀ j, j < n → CapZ B wr (A j) (C j) (Z j) ∧ (Z j).length = L j
  tab : ∀ j, j < n → wr.cell? ⟨G, j, none⟩ = some (.slice (A j) (L j) (C j))
  apart : ∀ j k x y, j < n → k < n → j ≠ k → A j = some x → A k = some y → x.block ≠ y.block
  tabs : ∀ j x, j < n → A j = some x → x.block ≠ G
  gl : G < wr.heap.size
  low : B ≤ wr.heap.size
  bel : Below B w wr
  keep : ∀ k, k < w.heap.size → (∀ j x, j < n → A j = some x → x.block ≠ k) → wr.heap[k]? = w.heap[k]?
theorem ApAL.mark {B n G : Nat} {w wr : World} {A : Nat → Option Addr} {L C : Nat → Nat} {Z : Nat → List Lv} (h : ApAL B n G w wr A L C Z) {i g k : Nat} (hi : i < n) (hA : A i = some ⟨g, 0, none⟩) (hk : k < L i) (x : Lv) : ApAL B n G w (put3 wr g k x) A L C (upd Z i ((Z i).set k x)) := by
  have b := put3_but wr g k x
  have hr := h.rows i hi
  have hg := hr.1.lt _ hA
  refine ⟨fun j hj => ?_, fun j hj => ?_, h.apart, h.tabs, Nat.lt_of_lt_of_le h.gl b.size, Nat.le_trans h.low b.size, h.bel.trans (b.below hg.1 h.low), fun q hq hne => (b.block q (Nat.lt_of_lt_of_le hq h.bel.size) (fun e => hne i _ hi hA e.symm)).trans (h.keep q hq hne)⟩
  · by_cases e : j = i
    · subst e
      rw [upd_eq, hA]
      rw [hA] at hr
      exact ⟨hr.1.put (by rw [hr.2]; exact hk) x, by rw [List.length_set]; exact hr.2⟩
    · rw [upd_ne e]
      exact ⟨(h.rows j hj).1.keep fun y hy => b.block _ ((h.rows j hj).1.lt y hy).2 (h.apart j i y _ hj hi e hy hA), (h.rows j hj).2⟩
  · rw [World.cell?_of_block (w := wr) (w' := put3 wr g k x) (a := ⟨G, j, none⟩) (b.block G h.gl (h.tabs i _ hi hA).symm)]
    exact h.tab j hj
def MarkedL (L : Nat → Nat) (Z : Nat → List Lv) (i : Nat) : Prop := ∀ j, j < i → ∀ k, k < L j → nthZ (Z j) k = mkL j k
/-! ### The family, while it grows -/
structure ApBL (B n G H i0 : Nat) (w wr : World) (A : Nat → Option Addr) (L C : Nat → Nat) (Z : Nat → List Lv) (D : Nat → Option Addr) (E : Nat → Nat) (Y : Nat → List Lv) : Prop where
  own : ∀ j, j < n → CapZ B wr (D j) (E j) (Y j)
  lie : ∀ j, j < n → AtZ wr (A j) (Z j)
  tab : ∀ j, j < n → wr.cell? ⟨G, j, none⟩ = some (.slice (A j) (L j) (C j))
  long : wr.rowIs H 22 n (fun j => if j < i0 then .slice (D j) (Y j).length (E j) else .slice none 0 0)
  pre : ∀ j, j < n → ∃ t, Y j = Z j ++ t
  dd : ∀ j k x y, j < n → k < n → j ≠ k → D j = some x → D k = some y → x.block ≠ y.block
  ad : ∀ j k x y, j < n → k < n → j ≠ k → A j = some x → D k = some y → x.block ≠ y.block
  aa : ∀ j x y, j < n → A j = some x → D j = some y → x.block = y.block → x = y
  dt : ∀ j x, j < n → D j = some x → x.block ≠ G ∧ x.block ≠ H
  alt : ∀ j x, j < n → A j = some x → x.block < wr.heap.size ∧ x.block ≠ H
  gh : G ≠ H ∧ G < wr.heap.size
  dn : ∀ j y, j < n → D j = some y → A j = some y ∨ w.heap.size ≤ y.block
  bel : KeepA B n H A w wr
  low : B ≤ H
/-- One more mark behind row i. -/
theorem ApBL.grow {B n G H i0 : Nat} {w wr w2 : World} {A : Nat → Option Addr} {L C : Nat → Nat} {Z : Nat → List Lv} {D : Nat → Option Addr} {E : Nat → Nat} {Y : Nat → List Lv} (h : ApBL B n G H i0 w wr A L C Z D E Y) {i : Nat} (hi : i < n) (hi0 : i < i0) {x : Lv} {o : Obj} {v' : Value}
    (hown : w2.ownsRow B 57 3 v' ((Y i).length + 1) (flatZ (Y i) ++ lvV x))
    (hg : (∃ g cap, Value.slice (D i) (Y i).length (E i) = .slice (some ⟨g, 0, none⟩) (Y i).length cap ∧ v' = .slice (some ⟨g, 0, none⟩) ((Y i).length + 1) cap ∧ (wr.alloc o).grownBy w2 (some g)) ∨ (∃ cap, v' = .slice (some ⟨(wr.alloc o).heap.size, 0, none⟩) ((Y i).length + 1) cap ∧ (wr.alloc o).grownBy w2 none)) :
    ∃ d c, v' = .slice d ((Y i).length + 1) c ∧ ApBL B n G H i0 w (w2.setCell ⟨H, i, none⟩ v') A L C Z (upd D i d) (upd E i c) (upd Y i (Y i ++ [x])) ∧ w2.cell? ⟨H, i, none⟩ = some (.slice (D i) (Y i).length (E i)) ∧ w2.frozen? ⟨H, i, none⟩ = false := by
  have hsz : wr.heap.size < (wr.alloc o).heap.size := by simp
  have hH := h.long.lt
  have hlow := h.low
  have key : ∃ d c, v' = .slice d ((Y i).length + 1) c ∧ (∃ row, (wr.alloc o).grownBy w2 row ∧ (∀ k, row = some k → (∃ y, D i = some y ∧ y.block = k) ∧ d = D i)) ∧ (d = D i ∨ ∃ y, d = some y ∧ wr.heap.size < y.block) := by
    rcases hg with ⟨g, cap, e1, e2, e3⟩ | ⟨cap, e2, e3⟩
    · injection e1 with e4 e5 e6
      exact ⟨_, _, e2, ⟨_, e3, fun k hk => ⟨⟨_, e4, by cases hk; rfl⟩, e4.symm⟩⟩, .inl e4.symm⟩
    · exact ⟨_, _, e2, ⟨_, e3, fun k hk => by cases hk⟩, .inr ⟨_, rfl, hsz⟩⟩
  obtain ⟨d, c, rfl, ⟨row, hgr, hrow⟩, hd⟩ := key
  have hblk : ∀ k, k < wr.heap.size → (∀ y, D i = some y → y.block ≠ k) → w2.heap[k]? = wr.heap[k]? := fun k hk hne => by
    rw [hgr.block k (by omega) (fun e => by obtain ⟨⟨y, hy, e2⟩, -⟩ := hrow k e.symm; exact hne y hy e2)]
    exact Below.heap_alloc wr o k hk
  have hHb : w2.heap[H]? = wr.heap[H]? := hblk H hH (fun y hy => (h.dt i y hi hy).2)
  have hrowsH : w2.rowIs H 22 n (fun j => if j < i0 then .slice (D j) (Y j).length (E j) else .slice none 0 0) := h.long.of_block hHb
  refine ⟨d, c, rfl, ?_, by rw [hrowsH.cell hi, if_pos hi0], hrowsH.frozen i⟩
  have hdb : ∀ y, d = some y → B ≤ y.block ∧ y.block < w2.heap.size := fun y hy => by
    have := hown.lt y.block (by rw [hy]; rfl)
    exact this
  have hset : ∀ k, k ≠ H → (w2.setCell ⟨H, i, none⟩ (.slice d ((Y i).length + 1) c)).heap[k]? = w2.heap[k]? := fun k hk => Below.heap_setCell w2 ⟨H, i, none⟩ _ k hk
  have hdH : ∀ y, d = some y → y.block ≠ H ∧ y.block ≠ G := fun y hy => by
    rcases hd with rfl | ⟨z, rfl, hz⟩
    · exact ⟨(h.dt i y hi hy).2, (h.dt i y hi hy).1⟩
    · cases hy
      have := h.gh.2
      exact ⟨by omega, by omega⟩
  have hDlt : ∀ j y, j < n → D j = some y → B ≤ y.block ∧ y.block < wr.heap.size := fun j y hj hy => (h.own j hj).lt y hy
  have hC : CapZ B w2 d c (Y i ++ [x]) := by
    unfold CapZ
    rw [flatZ_append, List.length_append, show flatZ [x] = lvV x by rw [show flatZ [x] = lvV x ++ [] from rfl, List.append_nil]]
    exact hown
  have hsize : wr.heap.size ≤ w2.heap.size := by have := hgr.size; omega
  have hsame : (w2.setCell ⟨H, i, none⟩ (.slice d ((Y i).length + 1) c)).heap.size = w2.heap.size := by simp [World.setCell]
  refine ⟨fun j hj => ?_, fun j hj => ?_, fun j hj => ?_, ?_, fun j hj => ?_, ?_, ?_, ?_, ?_, fun j y hj hy => ?_, ?_, ?_, ?_, h.low⟩
  · by_cases e : j = i
    · subst e
      rw [upd_eq, upd_eq, upd_eq]
      exact hC.keep fun y hy => hset _ (hdH y hy).1
    · rw [upd_ne e, upd_ne e, upd_ne e]
      refine (h.own j hj).keep fun y hy => ?_
      rw [hset _ (h.dt j y hj hy).2]
      exact hblk _ (hDlt j y hj hy).2 fun z hz e2 => h.dd j i y z hj hi e hy hz e2.symm
  · by_cases e : j = i
    · subst e
      cases ha : A j with
      | none =>
        have := h.lie j hj
        rw [ha] at this
        rcases this with h0 | ⟨b, h1, -⟩
        · exact .inl h0
        · cases h1
      | some y =>
        by_cases hin : ∃ z, D j = some z ∧ z.block = y.block
        · obtain ⟨z, hz, ez⟩ := hin
          have ezy := h.aa j y z hj ha hz ez.symm
          subst ezy
          rcases hd with rfl | ⟨z', hz', hlt⟩
          · have h1 : AtZ w2 (D j) (Y j ++ [x]) := hC.atZ
            obtain ⟨t, ht⟩ := h.pre j hj
            rw [ht, List.append_assoc] at h1
            have h2 := AtZ.prefix h1
            rw [hz] at h2
            exact h2.block fun z hz2 => by cases hz2; exact hset _ (h.dt j _ hj hz).2
          · have h1 := h.lie j hj
            rw [ha] at h1
            refine h1.block fun z hz2 => ?_
            cases hz2
            rw [hset _ (h.dt j _ hj hz).2]
            rw [hgr.block _ (by have := (hDlt j _ hj hz).2; omega) (fun e => by
              obtain ⟨⟨y2, hy2, e2⟩, e3⟩ := hrow _ e.symm
              have := hDlt j y2 hj hy2
              rw [hz'] at e3
              rw [← e3] at hy2
              cases hy2
              omega)]
            exact Below.heap_alloc wr o _ (hDlt j _ hj hz).2
        · have h1 := h.lie j hj
          rw [ha] at h1
          refine h1.block fun z hz2 => ?_
          cases hz2
          have halt := h.alt j _ hj ha
          rw [hset _ halt.2]
          exact hblk _ halt.1 fun z hz ez => hin ⟨z, hz, ez⟩
    · refine (h.lie j hj).block fun y hy => ?_
      have halt := h.alt j _ hj hy
      rw [hset _ halt.2]
      exact hblk _ halt.1 fun z hz ez => h.ad j i y z hj hi e hy hz ez.symm
  · rw [World.cell?_of_block (w := w2) (w' := w2.setCell ⟨H, i, none⟩ _) (a := ⟨G, j, none⟩) (hset G h.gh.1), World.cell?_of_block (w := wr) (w' := w2) (a := ⟨G, j, none⟩) (hblk G h.gh.2 fun y hy => (h.dt i y hi hy).1)]
    exact h.tab j hj
  · refine (hrowsH.set i _).congr fun j hj => ?_
    by_cases e : j = i
    · subst e
      rw [if_pos rfl, if_pos hi0, upd_eq, upd_eq, upd_eq]
      simp
    · rw [if_neg e, upd_ne e, upd_ne e, upd_ne e]
  · by_cases e : j = i
    · subst e
      obtain ⟨t, ht⟩ := h.pre j hj
      rw [upd_eq]
      exact ⟨t ++ [x], by rw [ht, List.append_assoc]⟩
    · rw [upd_ne e]
      exact h.pre j hj
  · intro j k y z hj hk hjk hy hz
    by_cases e1 : j = i
    · subst e1
      rw [upd_eq] at hy
      rw [upd_ne (Ne.symm hjk)] at hz
      rcases hd with rfl | ⟨y', rfl, hlt⟩
      · exact h.dd j k y z hj hk hjk hy hz
      · cases hy
        have := hDlt k z hk hz
        omega
    · rw [upd_ne e1] at hy
      by_cases e2 : k = i
      · subst e2
        rw [upd_eq] at hz
        rcases hd with rfl | ⟨y', rfl, hlt⟩
        · exact h.dd j k y z hj hk hjk hy hz
        · cases hz
          have := hDlt j y hj hy
          omega
      · rw [upd_ne e2] at hz
        exact h.dd j k y z hj hk hjk hy hz
  · intro j k y z hj hk hjk hy hz
    by_cases e2 : k = i
    · subst e2
      rw [upd_eq] at hz
      rcases hd with rfl | ⟨y', rfl, hlt⟩
      · exact h.ad j k y z hj hk hjk hy hz
      · cases hz
        have := h.alt j y hj hy
        omega
    · rw [upd_ne e2] at hz
      exact h.ad j k y z hj hk hjk hy hz
  · intro j y z hj hy hz e
    by_cases e2 : j = i
    · subst e2
      rw [upd_eq] at hz
      rcases hd with rfl | ⟨y', rfl, hlt⟩
      · exact h.aa j y z hj hy hz e
      · cases hz
        have := h.alt j y hj hy
        omega
    · rw [upd_ne e2] at hz
      exact h.aa j y z hj hy hz e
  · intro j y hj hy
    by_cases e2 : j = i
    · subst e2
      rw [upd_eq] at hy
      exact ⟨(hdH y hy).2, (hdH y hy).1⟩
    · rw [upd_ne e2] at hy
      exact h.dt j y hj hy
  · have := h.alt j y hj hy
    rw [hsame]
    exact ⟨by omega, this.2⟩
  · rw [hsame]
    exact ⟨h.gh.1, by have := h.gh.2; omega⟩
  · intro j y hj hy
    by_cases e2 : j = i
    · subst e2
      rw [upd_eq] at hy
      rcases hd with rfl | ⟨z, rfl, hz⟩
      · exact h.dn j y hj hy
      · cases hy
        have := h.bel.1.size
        exact .inr (by omega)
    · rw [upd_ne e2] at hy
      exact h.dn j y hj hy
  · have h1 : Below B w w2 := (h.bel.1.alloc (by omega) o).grown hgr (by omega) (fun k hk => by
      obtain ⟨⟨y, hy, e⟩, -⟩ := hrow k hk
      have := hDlt i y hi hy
      omega)
    refine ⟨h1.setCell (p := ⟨H, i, none⟩) h.low _, fun q q1 q2 q3 => ?_⟩
    rw [hset q q2, hblk q (by have := h.bel.1.size; omega) (fun y hy e => ?_)]
    · exact h.bel.2 q q1 q2 q3
    · rcases h.dn i y hi hy with h2 | h2
      · exact q3 i y hi h2 e
      · omega
/-- Row i is laid into the second table. -/
theorem ApBL.next {B n G H i : Nat} {w wr : World} {A : Nat → Option Addr} {L C : Nat → Nat} {Z : Nat → List Lv} {D : Nat → Option Addr} {E : Nat → Nat} {Y : Nat → List Lv} (h : ApBL B n G H i w wr A L C Z D E Y) : ApBL B n G H (i + 1) w (wr.setCell ⟨H, i, none⟩ (.slice (D i) (Y i).length (E i))) A L C Z D E Y := by
  have hset : ∀ k, k ≠ H → (wr.setCell ⟨H, i, none⟩ (.slice (D i) (Y i).length (E i))).heap[k]? = wr.heap[k]? := fun k hk => Below.heap_setCell wr ⟨H, i, none⟩ _ k hk
  have hsame : (wr.setCell ⟨H, i, none⟩ (.slice (D i) (Y i).length (E i))).heap.size = wr.heap.size := by simp [World.setCell]
  refine ⟨fun j hj => (h.own j hj).keep fun y hy => hset _ (h.dt j y hj hy).2, fun j hj => (h.lie j hj).block fun y hy => hset _ (h.alt j y hj hy).2, fun j hj => ?_, ?_, h.pre, h.dd, h.ad, h.aa, h.dt, fun j y hj hy => ⟨by rw [hsame]; exact (h.alt j y hj hy).1, (h.alt j y hj hy).2⟩, ⟨h.gh.1, by rw [hsame]; exact h.gh.2⟩, h.dn, h.bel.set h.low (fun q _ h2 _ => h2) i _, h.low⟩
  · rw [World.cell?_of_block (w := wr) (w' := wr.setCell ⟨H, i, none⟩ _) (a := ⟨G, j, none⟩) (hset G h.gh.1)]
    exact h.tab j hj
  · refine (h.long.set i _).congr fun j hj => ?_
    by_cases e : j = i
    · subst e
      rw [if_pos rfl, if_pos (by omega)]
    · rw [if_neg e]
      by_cases e2 : j < i
      · rw [if_pos e2, if_pos (by omega)]
      · rw [if_neg e2, if_neg (by omega)]
/-- What Y is while row i has k marks behind it. -/
def yyL (Z : Nat → List Lv) (i k : Nat) (j : Nat) : List Lv := Z j ++ tailsL j (if j < i then 8 else if j = i then k else 0)
theorem yyL_start (Z : Nat → List Lv) : yyL Z 0 0 = Z := by
  funext j
  unfold yyL
  rw [if_neg (by omega)]
  have : (if j = 0 then 0 else 0) = 0 := by split <;> rfl
  rw [this]
  simp [tailsL]
theorem yyL_step (Z : Nat → List Lv) (i k : Nat) : upd (yyL Z i k) i (yyL Z i k i ++ [mtL i k]) = yyL Z i (k + 1) := by
  funext j
  by_cases e : j = i
  · subst e
    rw [upd_eq]
    unfold yyL
    rw [if_neg (by omega), if_pos rfl, if_neg (by omega), if_pos rfl, tailsL_succ, List.append_assoc]
  · rw [upd_ne e]
    unfold yyL
    by_cases e2 : j < i
    · rw [if_pos e2, if_pos e2]
    · rw [if_neg e2, if_neg e2, if_neg e, if_neg e]
theorem yyL_next (Z : Nat → List Lv) (i : Nat) : yyL Z i 8 = yyL Z (i + 1) 0 := by
  funext j
  unfold yyL
  congr 2
  by_cases e2 : j < i
  · rw [if_pos e2, if_pos (by omega)]
  · by_cases e : j = i
    · subst e
      rw [if_neg e2, if_pos rfl, if_pos (by omega)]
    · rw [if_neg e2, if_neg e, if_neg (by omega)]
      split <;> rfl
theorem yyL_end (Z : Nat → List Lv) {n j : Nat} (hj : j < n) : yyL Z n 0 j = Z j ++ tailsL j 8 := by
  unfold yyL
  rw [if_pos hj]
structure ApCL (B n G H : Nat) (Lg : Nat → Value) (w wr : World) (A : Nat → Option Addr) (L C : Nat → Nat) (Z : Nat → List Lv) (D : Nat → Option Addr) (E : Nat → Nat) (Y : Nat → List Lv) : Prop where
  own : ∀ j, j < n → CapZ B wr (D j) (E j) (Y j)
  lie : ∀ j, j < n → AtZ wr (A j) (Z j)
  tab : ∀ j, j < n → wr.cell? ⟨G, j, none⟩ = some (.slice (A j) (L j) (C j))
  long : wr.rowIs H 22 n Lg
  pre : ∀ j, j < n → ∃ t, Y j = Z j ++ t
  dd : ∀ j k x y, j < n → k < n → j ≠ k → D j = some x → D k = some y → x.block ≠ y.block
  ad : ∀ j k x y, j < n → k < n → j ≠ k → A j = some x → D k = some y → x.block ≠ y.block
  aa : ∀ j x y, j < n → A j = some x → D j = some y → x.block = y.block → x = y
  dt : ∀ j x, j < n → D j = some x → x.block ≠ G ∧ x.block ≠ H
  alt : ∀ j x, j < n → A j = some x → x.block < wr.heap.size ∧ x.block ≠ H
  gh : G ≠ H ∧ G < wr.heap.size ∧ H < wr.heap.size
  dn : ∀ j y, j < n → D j = some y → A j = some y ∨ w.heap.size ≤ y.block
  bel : KeepA B n H A w wr
  low : B ≤ H
/-- Row i changes, in place or anew. -/
theorem ApCL.step {B n G H : Nat} {Lg : Nat → Value} {w wr u : World} {A : Nat → Option Addr} {L C : Nat → Nat} {Z : Nat → List Lv} {D : Nat → Option Addr} {E : Nat → Nat} {Y : Nat → List Lv} (h : ApCL B n G H Lg w wr A L C Z D E Y) {i : Nat} (hi : i < n) {d : Option Addr} {c : Nat} {t : List Lv} (hC : CapZ B u d c (Z i ++ t))
    (hk : ∀ k, k < wr.heap.size → (∀ y, D i = some y → y.block ≠ k) → u.heap[k]? = wr.heap[k]?) (hd : d = D i ∨ ((∀ k, k < wr.heap.size → u.heap[k]? = wr.heap[k]?) ∧ ∀ y, d = some y → wr.heap.size ≤ y.block)) (hb : Below B wr u) :
    ApCL B n G H Lg w u A L C Z (upd D i d) (upd E i c) (upd Y i (Z i ++ t)) := by
  have hDlt : ∀ j y, j < n → D j = some y → B ≤ y.block ∧ y.block < wr.heap.size := fun j y hj hy => (h.own j hj).lt y hy
  have hws := h.bel.1.size
  refine ⟨fun j hj => ?_, fun j hj => ?_, fun j hj => ?_, h.long.of_block (hk H h.gh.2.2 fun y hy => (h.dt i y hi hy).2), fun j hj => ?_, ?_, ?_, ?_, ?_, fun j y hj hy => ⟨Nat.lt_of_lt_of_le (h.alt j y hj hy).1 hb.size, (h.alt j y hj hy).2⟩, ⟨h.gh.1, Nat.lt_of_lt_of_le h.gh.2.1 hb.size, Nat.lt_of_lt_of_le h.gh.2.2 hb.size⟩, ?_, ?_, h.low⟩
  · by_cases e : j = i
    · subst e
      rw [upd_eq, upd_eq, upd_eq]
      exact hC
    · rw [upd_ne e, upd_ne e, upd_ne e]
      exact (h.own j hj).keep fun y hy => hk _ (hDlt j y hj hy).2 fun z hz e2 => h.dd j i y z hj hi e hy hz e2.symm
  · by_cases e : j = i
    · subst e
      cases ha : A j with
      | none =>
        have := h.lie j hj
        rw [ha] at this
        rcases this with h0 | ⟨b, h1, -⟩
        · exact .inl h0
        · cases h1
      | some y =>
        by_cases hin : ∃ z, D j = some z ∧ z.block = y.block
        · obtain ⟨z, hz, ez⟩ := hin
          have ezy := h.aa j y z hj ha hz ez.symm
          subst ezy
          rcases hd with rfl | ⟨hall, -⟩
          · have h2 := AtZ.prefix hC.atZ
            rw [hz] at h2
            exact h2
          · have h1 := h.lie j hj
            rw [ha] at h1
            exact h1.block fun z hz2 => by cases hz2; exact hall _ (hDlt j _ hj hz).2
        · have h1 := h.lie j hj
          rw [ha] at h1
          refine h1.block fun z hz2 => ?_
          cases hz2
          exact hk _ (h.alt j _ hj ha).1 fun z hz ez => hin ⟨z, hz, ez⟩
    · exact (h.lie j hj).block fun y hy => hk _ (h.alt j _ hj hy).1 fun z hz ez => h.ad j i y z hj hi e hy hz ez.symm
  · rw [World.cell?_of_block (w := wr) (w' := u) (a := ⟨G, j, none⟩) (hk G h.gh.2.1 fun y hy => (h.dt i y hi hy).1)]
    exact h.tab j hj
  · by_cases e : j = i
    · subst e
      rw [upd_eq]
      exact ⟨t, rfl⟩
    · rw [upd_ne e]
      exact h.pre j hj
  · intro j k y z hj hk2 hjk hy hz
    by_cases e1 : j = i
    · subst e1
      rw [upd_eq] at hy
      rw [upd_ne (Ne.symm hjk)] at hz
      rcases hd with rfl | ⟨-, hlt⟩
      · exact h.dd j k y z hj hk2 hjk hy hz
      · have := hlt y hy
        have := hDlt k z hk2 hz
        omega
    · rw [upd_ne e1] at hy
      by_cases e2 : k = i
      · subst e2
        rw [upd_eq] at hz
        rcases hd with rfl | ⟨-, hlt⟩
        · exact h.dd j k y z hj hk2 hjk hy hz
        · have := hlt z hz
          have := hDlt j y hj hy
          omega
      · rw [upd_ne e2] at hz
        exact h.dd j k y z hj hk2 hjk hy hz
  · intro j k y z hj hk2 hjk hy hz
    by_cases e2 : k = i
    · subst e2
      rw [upd_eq] at hz
      rcases hd with rfl | ⟨-, hlt⟩
      · exact h.ad j k y z hj hk2 hjk hy hz
      · have := hlt z hz
        have := (h.alt j y hj hy).1
        omega
    · rw [upd_ne e2] at hz
      exact h.ad j k y z hj hk2 hjk hy hz
  · intro j y z hj hy hz e
    by_cases e2 : j = i
    · subst e2
      rw [upd_eq] at hz
      rcases hd with rfl | ⟨-, hlt⟩
      · exact h.aa j y z hj hy hz e
      · have := hlt z hz
        have := (h.alt j y hj hy).1
        omega
    · rw [upd_ne e2] at hz
      exact h.aa j y z hj hy hz e
  · intro j y hj hy
    by_cases e2 : j = i
    · subst e2
      rw [upd_eq] at hy
      rcases hd with rfl | ⟨-, hlt⟩
      · exact h.dt j y hj hy
      · have := hlt y hy
        have := h.gh.2.1
        have := h.gh.2.2
        exact ⟨by omega, by omega⟩
    · rw [upd_ne e2] at hy
      exact h.dt j y hj hy
  · intro j y hj hy
    by_cases e2 : j = i
    · subst e2
      rw [upd_eq] at hy
      rcases hd with rfl | ⟨-, hlt⟩
      · exact h.dn j y hj hy
      · have := hlt y hy
        exact .inr (by omega)
    · rw [upd_ne e2] at hy
      exact h.dn j y hj hy
  · refine ⟨h.bel.1.trans hb, fun q q1 q2 q3 => ?_⟩
    rw [hk q (by omega) (fun y hy e => ?_)]
    · exact h.bel.2 q q1 q2 q3
    · rcases h.dn i y hi hy with h2 | h2
      · exact q3 i y hi h2 e
      · omega
theorem upd_same {α : Type} (f : Nat → α) (i : Nat) : upd f i (f i) = f := by
  funext j
  by_cases e : j = i
  · subst e; exact upd_eq _ _ _
  · exact upd_ne e
/-- Nothing old has turned. -/
theorem ApCL.later {B n G H : Nat} {Lg : Nat → Value} {w wr u : World} {A : Nat → Option Addr} {L C : Nat → Nat} {Z : Nat → List Lv} {D : Nat → Option Addr} {E : Nat → Nat} {Y : Nat → List Lv} (h : ApCL B n G H Lg w wr A L C Z D E Y) (hb : Below wr.heap.size wr u) : ApCL B n G H Lg w u A L C Z D E Y := by
  have hws := h.bel.1.size
  refine ⟨fun j hj => (h.own j hj).later hb, fun j hj => (h.lie j hj).block fun y hy => hb.block _ (h.alt j y hj hy).1, fun j hj => ?_, h.long.of_block (hb.block H h.gh.2.2), h.pre, h.dd, h.ad, h.aa, h.dt, fun j y hj hy => ⟨Nat.lt_of_lt_of_le (h.alt j y hj hy).1 hb.size, (h.alt j y hj hy).2⟩, ⟨h.gh.1, Nat.lt_of_lt_of_le h.gh.2.1 hb.size, Nat.lt_of_lt_of_le h.gh.2.2 hb.size⟩, h.dn, ⟨h.bel.1.trans (hb.mono (Nat.le_trans h.low (Nat.le_of_lt h.gh.2.2))), fun q q1 q2 q3 => (hb.block q (by omega)).trans (h.bel.2 q q1 q2 q3)⟩, h.low⟩
  rw [World.cell?_of_block (w := wr) (w' := u) (a := ⟨G, j, none⟩) (hb.block G h.gh.2.1)]
  exact h.tab j hj
/-- A cell of the second table is written. -/
theorem ApCL.setL {B n G H : Nat} {Lg : Nat → Value} {w wr : World} {A : Nat → Option Addr} {L C : Nat → Nat} {Z : Nat → List Lv} {D : Nat → Option Addr} {E : Nat → Nat} {Y : Nat → List Lv} (h : ApCL B n G H Lg w wr A L C Z D E Y) (i : Nat) (v : Value) : ApCL B n G H (upd Lg i v) w (wr.setCell ⟨H, i, none⟩ v) A L C Z D E Y := by
  have hset : ∀ k, k ≠ H → (wr.setCell ⟨H, i, none⟩ v).heap[k]? = wr.heap[k]? := fun k hk => Below.heap_setCell wr ⟨H, i, none⟩ _ k hk
  have hsame : (wr.setCell ⟨H, i, none⟩ v).heap.size = wr.heap.size := by simp [World.setCell]
  refine ⟨fun j hj => (h.own j hj).keep fun y hy => hset _ (h.dt j y hj hy).2, fun j hj => (h.lie j hj).block fun y hy => hset _ (h.alt j y hj hy).2, fun j hj => ?_, ?_, h.pre, h.dd, h.ad, h.aa, h.dt, fun j y hj hy => ⟨by rw [hsame]; exact (h.alt j y hj hy).1, (h.alt j y hj hy).2⟩, ⟨h.gh.1, by rw [hsame]; exact h.gh.2.1, by rw [hsame]; exact h.gh.2.2⟩, h.dn, h.bel.set h.low (fun q _ h2 _ => h2) i _, h.low⟩
  · rw [World.cell?_of_block (w := wr) (w' := wr.setCell ⟨H, i, none⟩ _) (a := ⟨G, j, none⟩) (hset G h.gh.1)]
    exact h.tab j hj
  · refine (h.long.set i _).congr fun j hj => ?_
    by_cases e : j = i
    · subst e
      rw [if_pos rfl, upd_eq]
    · rw [if_neg e, upd_ne e]
/-- A loop is stored into row i, behind what stood in it first. -/
theorem ApCL.put {B n G H : Nat} {Lg : Nat → Value} {w wr : World} {A : Nat → Option Addr} {L C : Nat → Nat} {Z : Nat → List Lv} {D : Nat → Option Addr} {E : Nat → Nat} {Y : Nat → List Lv} (h : ApCL B n G H Lg w wr A L C Z D E Y) {i g : Nat} (hi : i < n) (hD : D i = some ⟨g, 0, none⟩) {t : List Lv} {y : Lv} (hY : Y i = Z i ++ (t ++ [y])) (x : Lv) (m : Nat) (hm : (Z i ++ t).length = m) : ApCL B n G H Lg w (put3 wr g m x) A L C Z D E (upd Y i (Z i ++ (t ++ [x]))) := by
  have b := put3_but wr g m x
  have hr := h.own i hi
  rw [hD, hY] at hr
  have hg := hr.lt _ rfl
  have hp := hr.put (k := m) (by rw [← List.append_assoc, List.length_append, hm]; simp) x
  have e1 : (Z i ++ (t ++ [y])).set m x = Z i ++ (t ++ [x]) := by
    rw [← List.append_assoc, ← List.append_assoc, List.set_append_right _ _ (by omega), ← hm, Nat.sub_self]
    rfl
  rw [e1] at hp
  have q := h.step hi (d := D i) (c := E i) (t := t ++ [x]) (by rw [hD]; exact hp) (fun k hk hne => b.block k hk (fun e => hne _ hD e.symm)) (.inl rfl) (b.below hg.1 (Nat.le_trans h.low (Nat.le_of_lt h.gh.2.2)))
  rwa [upd_same, upd_same] at q
/-- A row that has grown, told by the world ahead: in place, or anew and then nothing old has turned. -/
structure GrmZ (B : Nat) (V : World) (d0 : Option Addr) (L : List Lv) (u : World) (d : Option Addr) (c : Nat) : Prop where
  own : CapZ B u d c L
  keep : ∀ k, k < V.heap.size → (∀ y, d0 = some y → y.block ≠ k) → u.heap[k]? = V.heap[k]?
  how : d = d0 ∨ ((∀ k, k < V.heap.size → u.heap[k]? = V.heap[k]?) ∧ ∀ y, d = some y → V.heap.size ≤ y.block)
  size : V.heap.size ≤ u.heap.size
  os : u.os = V.os
  tape : u.tape = V.tape
  output : u.output = V.output
theorem GrmZ.below {B : Nat} {V u : World} {d0 d : Option Addr} {L : List Lv} {c : Nat} (h : GrmZ B V d0 L u d c) (h0 : ∀ y, d0 = some y → B ≤ y.block) (hB : B ≤ V.heap.size) : Below B V u :=
  ⟨h.os, h.tape, h.output, h.size, fun k hk => h.keep k (Nat.lt_of_lt_of_le hk hB) fun y hy e => by have := h0 y hy; omega⟩
theorem mark_appZ {V w : World} {o : Oper} {ρ : Operand → Value} (s x : Operand) (ho : o.op = .call { callee := .builtin .append, args := #[s, x], argTypes := #[22, 22] }) {B g c0 : Nat} {d0 : Option Addr} {zs : List Lv} (n : Nat) (hl : zs.length = n) {y : Lv} (hs : ρ s = .slice d0 n c0) (hx : ρ x = .slice (some ⟨g, 0, none⟩) 1 1) (hown : CapZ B V d0 c0 zs) (hb : Below V.heap.size V w) (h0 : w.cell? ⟨g, 0, none⟩ = some (.int .i64 y.t)) (h1 : w.cell? ⟨g, 1, none⟩ = some (.int .i64 y.n)) (h2 : w.cell? ⟨g, 2, none⟩ = some (.slice y.a y.k y.c)) (hn : n ≤ 10000000) (hB : B ≤ V.heap.size)
    {T : World → Value → Prop} (h : ∀ u d c, GrmZ B V d0 (zs ++ [y]) u d c → T u (.slice d (n + 1) c)) : markUpon Try.prog w T ((execOp ρ o).run Try.prog w) := by
  subst hl
  obtain ⟨i0, hi, hz0, hz1, hz2⟩ := info_parts Try.infoLoop
  have hown2 : CapZ B w d0 c0 zs := hown.later hb
  obtain ⟨v', w', hr, q2, q3⟩ := run_append_told (P := Try.prog) w B 22 o.type 57 i0 _ 3 40 Try.underlying22 hi hz0 hz1 hz2 rfl (by decide) (.slice d0 zs.length c0) zs.length _ hown2 ⟨g, 0, none⟩ 1 1 (by decide) (lvV y) rfl (fun j u hu => by
    match j, hu with
    | 0, hu => cases hu; simpa [Addr.add] using h0
    | 1, hu => cases hu; simpa [Addr.add] using h1
    | 2, hu => cases hu; simpa [Addr.add] using h2) (fun u hu => flatZ_one [y] u (by rw [show flatZ [y] = lvV y ++ [] from rfl, List.append_nil]; exact hu)) (by unfold maxLen; omega) (by omega) (Nat.le_trans hB hb.size)
  have q2' : w'.ownsRow B 57 3 v' (zs ++ [y]).length (flatZ (zs ++ [y])) := by
    rw [flatZ_append, List.length_append]
    exact (show flatZ [y] = lvV y by rw [show flatZ [y] = lvV y ++ [] from rfl, List.append_nil]) ▸ q2
  unfold execOp
  simp only [ho, resolve, invoke, builtin, Sem.run_bind, Sem.run_pure, Result.andThen_ok, List.map_toArray, List.map_cons, List.map_nil, hs, hx, hr]
  rcases q3 with ⟨g1, cap, e1, rfl, hg⟩ | ⟨cap, rfl, hg⟩
  · cases e1
    refine h w' _ _ ⟨by unfold CapZ; simpa using q2', fun k hk hne => ?_, .inl rfl, Nat.le_trans hb.size hg.size, hg.os.trans hb.os, hg.tape.trans hb.tape, hg.output.trans hb.output⟩
    exact (hg.block k (Nat.lt_of_lt_of_le hk hb.size) (fun e => by cases e; exact hne _ rfl rfl)).trans (hb.block k hk)
  · have hall : ∀ k, k < V.heap.size → w'.heap[k]? = V.heap[k]? := fun k hk => (hg.block k (Nat.lt_of_lt_of_le hk hb.size) (fun e => by cases e)).trans (hb.block k hk)
    exact h w' _ _ ⟨by unfold CapZ; simpa using q2', fun k hk _ => hall k hk, .inr ⟨hall, fun z hz => by cases hz; exact hb.size⟩, Nat.le_trans hb.size hg.size, hg.os.trans hb.os, hg.tape.trans hb.tape, hg.output.trans hb.output⟩
theorem ApCL.grow {B n G H : Nat} {Lg : Nat → Value} {w wr u : World} {A : Nat → Option Addr} {L C : Nat → Nat} {Z : Nat → List Lv} {D : Nat → Option Addr} {E : Nat → Nat} {Y : Nat → List Lv} (h : ApCL B n G H Lg w wr A L C Z D E Y) {i : Nat} (hi : i < n) {t : List Lv} (hY : Y i = Z i ++ t) {x : Lv} {d : Option Addr} {c : Nat} (hg : GrmZ B wr (D i) (Y i ++ [x]) u d c) : ApCL B n G H Lg w u A L C Z (upd D i d) (upd E i c) (upd Y i (Z i ++ (t ++ [x]))) := by
  have hlow := Nat.le_trans h.low (Nat.le_of_lt h.gh.2.2)
  refine h.step hi ?_ hg.keep hg.how (hg.below (fun y hy => ((h.own i hi).lt y hy).1) hlow)
  have q := hg.own
  rwa [hY, List.append_assoc] at q
/-- The start: the second table is new. -/
theorem apCL_start {B n G : Nat} {w wr w0 : World} {A : Nat → Option Addr} {L C : Nat → Nat} {Z : Nat → List Lv} (h : ApAL B n G w wr A L C Z) (hb : Below wr.heap.size wr w0) (hl : w0.rowIs wr.heap.size 22 n (fun _ => .slice none 0 0)) (hH : wr.heap.size < w0.heap.size) :
    ApCL B n G wr.heap.size (fun _ => .slice none 0 0) wr w0 A L C Z A C Z := by
  refine ⟨fun j hj => (h.rows j hj).1.later hb, fun j hj => ((h.rows j hj).1.later hb).atZ, fun j hj => ?_, hl, fun j _ => ⟨[], by rw [List.append_nil]⟩, h.apart, h.apart, fun j x y _ h1 h2 _ => by rw [h1] at h2; cases h2; rfl, fun j x hj hx => ⟨h.tabs j x hj hx, by have := ((h.rows j hj).1.lt x hx).2; omega⟩, fun j x hj hx => ⟨Nat.lt_of_lt_of_le ((h.rows j hj).1.lt x hx).2 hb.size, by have := ((h.rows j hj).1.lt x hx).2; omega⟩, ⟨by have := h.gl; omega, Nat.lt_of_lt_of_le h.gl hb.size, hH⟩, (fun j y _ hy => .inl hy), ⟨hb.mono h.low, fun k hk _ _ => hb.block k hk⟩, h.low⟩
  rw [World.cell?_of_block (w := wr) (w' := w0) (a := ⟨G, j, none⟩) (hb.block G h.gl)]
  exact h.tab j hj
end Go.Proofs.Ytmeogapffdgjlaa

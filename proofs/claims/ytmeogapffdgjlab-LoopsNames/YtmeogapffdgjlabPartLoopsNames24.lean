/- Texts of one chain, laid one behind the other. -/
import Derived.Test.YtmeogapffdgjlabPartLoopsNames16
import Derived.Test.YtmeogapffdgjlabPartLoopsNames14
import Derived.Test.YtmeogapffdgjlabPartLoopsNames23
import Derived.Test.YtmeogapffdgjlabPartLoopsNames21
import Derived.Test.YtmeogapffdgjlabPartLoopsNames18
import Derived.Test.YtmeogapffdgjlabPartLoopsNames19
import Derived.Test.YtmeogapffdgjlabPartLoopsNames8
import Derived.Test.YtmeogapffdgjlabPartLoopsNames22
import Derived.Laws.AppendOwnNone
import Derived.Test.YtmeogapffdgjlabPartLoopsNames3
import Derived.BigQuiet
import Derived.Deep.QuietTactic
namespace Go.Proofs.Ytmeogapffdgjlab
open Go.ChangeShapes Go.WideShapes Go.ChangeAt Go.RowKit
/-- A row of known loops of a call's own, with room behind it. -/
def CapK (B : Nat) (w : World) (a : Option Addr) (c : Nat) (L : List Lv) : Prop := w.ownsRow B 56 3 (.slice a L.length c) L.length (flatZ L)
theorem CapK.nil (B : Nat) (w : World) : CapK B w none 0 [] := World.ownsRow_nil _ _ _ _
theorem CapK.cell {B : Nat} {w : World} {g c : Nat} {L : List Lv} (h : CapK B w (some ⟨g, 0, none⟩) c L) {k j : Nat} (hk : k < L.length) (hj : j < 3) : w.cell? ⟨g, k * 3 + j, none⟩ = some (celZ (nthZ L k) j) := by
  rw [World.ownsRow.cellAt h (k * 3 + j) (by omega), flatZ_get hk hj]
theorem CapK.there {B : Nat} {w : World} {a : Option Addr} {c : Nat} {L : List Lv} (h : CapK B w a c L) (h0 : L ≠ []) : ∃ g, a = some ⟨g, 0, none⟩ := by
  rcases h.2 with ⟨hv, hn⟩ | ⟨g, cap, cur, hv, hg, hh, hc, hm, hs, ht⟩
  · exact absurd (List.eq_nil_of_length_eq_zero hn) h0
  · cases hv; exact ⟨g, rfl⟩
theorem CapK.lt {B : Nat} {w : World} {a : Option Addr} {c : Nat} {L : List Lv} (h : CapK B w a c L) : ∀ x, a = some x → B ≤ x.block ∧ x.block < w.heap.size := by
  intro x hx
  rcases h.2 with ⟨hv, hn⟩ | ⟨g, cap, cur, hv, hg, hh, hc, hm, hs, ht⟩
  · simp at hv; rw [hv.1] at hx; cases hx
  · cases hv
    cases hx
    exact ⟨hg, (Array.getElem?_eq_some_iff.1 hh).1⟩
theorem CapK.keep {B : Nat} {w w' : World} {a : Option Addr} {c : Nat} {L : List Lv} (h : CapK B w a c L) (hk : ∀ x, a = some x → w'.heap[x.block]? = w.heap[x.block]?) : CapK B w' a c L := by
  refine ⟨h.1, ?_⟩
  rcases h.2 with h2 | ⟨g, cap, cur, hv, hg, hh, r⟩
  · exact .inl h2
  · refine .inr ⟨g, cap, cur, hv, hg, ?_, r⟩
    cases hv
    rw [hk _ rfl]; exact hh
theorem CapK.later {B : Nat} {w w' : World} {a : Option Addr} {c : Nat} {L : List Lv} (h : CapK B w a c L) (hb : Below w.heap.size w w') : CapK B w' a c L := h.keep fun x hx => hb.block _ (h.lt x hx).2
theorem CapK.room {B : Nat} {w : World} {a : Option Addr} {c : Nat} {L : List Lv} (h : CapK B w a c L) : L.length ≤ c := by
  rcases h.2 with ⟨hv, hn⟩ | ⟨g, cap, cur, hv, hg, hh, hc, hm, r⟩
  · simp at hv; omega
  · cases hv; exact hc
theorem Try.infoKnown : (Try.prog.info? 56).map (fun i => (i.zero, i.size, i.bytes)) = some (some (.agg #[.int .i64 0, .int .i64 0, .slice none 0 0]), 3, 40) := by kernel_rfl
/-- A row that has grown; all else is as it was. -/
structure GrwK (B : Nat) (V : World) (d0 : Option Addr) (L : List Lv) (u : World) (d : Option Addr) (c : Nat) : Prop where
  own : CapK B u d c L
  keep : ∀ k, k < V.heap.size → (∀ y, d0 = some y → y.block ≠ k) → u.heap[k]? = V.heap[k]?
  new : ∀ z, d = some z → d0 = some z ∨ V.heap.size ≤ z.block
  size : V.heap.size ≤ u.heap.size
  os : u.os = V.os
  tape : u.tape = V.tape
  output : u.output = V.output
theorem GrwK.below {B : Nat} {V u : World} {d0 d : Option Addr} {L : List Lv} {c : Nat} (h : GrwK B V d0 L u d c) (h0 : ∀ y, d0 = some y → B ≤ y.block) (hB : B ≤ V.heap.size) : Below B V u :=
  ⟨h.os, h.tape, h.output, h.size, fun k hk => h.keep k (Nat.lt_of_lt_of_le hk hB) fun y hy e => by have := h0 y hy; omega⟩
theorem wpList_appK {w : World} {ops : Array Oper} {rest : List Oper} {o : Oper} {a : Act} {Q : Exit → Act → World → Prop} (hgd : o.guard = none) (s x : Operand) (ho : o.op = .call { callee := .builtin .append, args := #[s, x], argTypes := #[52, 52] })
    (B : Nat) (d0 : Option Addr) (c0 : Nat) (zs : List Lv) (n : Nat) (hn : zs.length = n) (hs : a.eval s = .slice d0 n c0) (hown : CapK B w d0 c0 zs) (g : Nat) (y : Lv) (hx : a.eval x = .slice (some ⟨g, 0, none⟩) 1 1) (h0 : w.cell? ⟨g, 0, none⟩ = some (.int .i64 y.t)) (h1 : w.cell? ⟨g, 1, none⟩ = some (.int .i64 y.n)) (h2 : w.cell? ⟨g, 2, none⟩ = some (.slice y.a y.k y.c)) (hb : n ≤ 10000000) (hB : B ≤ w.heap.size)
    (h : ∀ d c' w', GrwK B w d0 (zs ++ [y]) w' d c' → wpList Try.prog ops Q rest (a.put o.dst (.slice d (n + 1) c')) w') : wpList Try.prog ops Q (o :: rest) a w := by
  subst hn
  obtain ⟨i0, hi, hz0, hz1, hz2⟩ := info_parts Try.infoKnown
  refine wpList_append_told w hgd s x 52 ho B 56 i0 _ 3 40 Try.underlying52 hi hz0 hz1 hz2 rfl (by decide) _ zs.length (flatZ zs) hs hown ⟨g, 0, none⟩ 1 1 (by decide) (lvV y) hx rfl (fun j u hu => ?_) (fun u hu => ?_) (by unfold maxLen; omega) (by omega) hB ?_
  · match j, hu with
    | 0, hu => cases hu; simpa [Addr.add] using h0
    | 1, hu => cases hu; simpa [Addr.add] using h1
    | 2, hu => cases hu; simpa [Addr.add] using h2
  · exact flatZ_one [y] u (by rw [show flatZ [y] = lvV y ++ [] from rfl, List.append_nil]; exact hu)
  intro v' w' hown1 hgrow
  have hown' : w'.ownsRow B 56 3 v' (zs ++ [y]).length (flatZ (zs ++ [y])) := by
    rw [flatZ_append, List.length_append]
    exact (show flatZ [y] = lvV y by rw [show flatZ [y] = lvV y ++ [] from rfl, List.append_nil]) ▸ hown1
  rcases hgrow with ⟨g1, cap, e1, rfl, hg⟩ | ⟨cap, rfl, hg⟩
  · cases e1
    refine h _ _ w' ⟨by unfold CapK; simpa using hown', fun k hk hne => hg.block k hk (fun e => by cases e; exact hne _ rfl rfl), fun z hz => .inl hz, hg.size, hg.os, hg.tape, hg.output⟩
  · refine h _ _ w' ⟨by unfold CapK; simpa using hown', fun k hk hne => hg.block k hk (fun e => by cases e), fun z hz => by cases hz; exact .inr (Nat.le_refl _), hg.size, hg.os, hg.tape, hg.output⟩
theorem CapK.ty {B : Nat} {w : World} {g c : Nat} {L : List Lv} (h : CapK B w (some ⟨g, 0, none⟩) c L) : ∃ cs, BlkA 56 g w cs := by
  rcases h.2 with ⟨hv, -⟩ | ⟨g', cap, cur, hv, hg, hh, r⟩
  · cases hv
  · cases hv; exact ⟨cur, hh⟩
theorem CapK.at0 {B : Nat} {w : World} {a : Option Addr} {c : Nat} {L : List Lv} (h : CapK B w a c L) : ∀ x, a = some x → x = ⟨x.block, 0, none⟩ := by
  intro x hx
  rcases h.2 with ⟨hv, hn⟩ | ⟨g, cap, cur, hv, hg, hh, hc, hm, hs, ht⟩
  · simp at hv; rw [hv.1] at hx; cases hx
  · cases hv; cases hx; rfl
/-! ### rows of numbers -/
def IntB (w : World) (k : Nat) : Prop := ∃ cs, BlkA 3 k w cs
theorem IntB.lt {w : World} {k : Nat} (h : IntB w k) : k < w.heap.size := by obtain ⟨cs, h⟩ := h; exact h.lt
theorem IntB.keep {w w' : World} {k : Nat} (h : IntB w k) (hb : w'.heap[k]? = w.heap[k]?) : IntB w' k := by obtain ⟨cs, h⟩ := h; exact ⟨cs, h.keep hb⟩
theorem CapR.int {B : Nat} {w : World} {a : Option Addr} {c : Nat} {zs : List Int} (h : CapR B w a c zs) : ∀ x, a = some x → IntB w x.block := by
  intro x hx
  rcases h.2 with ⟨hv, -⟩ | ⟨g', cap, cur, hv, hg, hh, r⟩
  · simp at hv; rw [hv.1] at hx; cases hx
  · cases hv; cases hx; exact ⟨cur, hh⟩
theorem At.keepQ {w w' : World} {a : Option Addr} {zs : List Int} (h : At w a zs) (hk : ∀ x, a = some x → w'.heap[x.block]? = w.heap[x.block]?) : At w' a zs := by
  rcases h with h | ⟨b, o, e, h⟩
  · exact .inl h
  · refine .inr ⟨b, o, e, fun k hk' => ?_⟩
    rw [cell_blk (hk _ e)]
    exact h k hk'
theorem At.drop {w : World} {b o : Nat} {zs : List Int} (h : At w (some ⟨b, o, none⟩) zs) (k : Nat) : At w (some ⟨b, o + k, none⟩) (zs.drop k) := by
  rcases h with h | ⟨b', o', e, h⟩
  · exact .inl (by rw [h]; simp)
  · cases e
    refine .inr ⟨b, o + k, rfl, fun j hj => ?_⟩
    rw [List.length_drop] at hj
    rw [Nat.add_assoc, h (k + j) (by omega)]
    unfold nth
    simp [List.getD_eq_getElem?_getD, List.getElem?_drop]
theorem At.take {w : World} {a : Option Addr} {zs : List Int} (h : At w a zs) (k : Nat) : At w a (zs.take k) := by
  rcases h with h | ⟨b', o', e, h⟩
  · exact .inl (by rw [h]; simp)
  · refine .inr ⟨b', o', e, fun j hj => ?_⟩
    rw [List.length_take] at hj
    rw [h j (by omega)]
    unfold nth
    simp [List.getD_eq_getElem?_getD, show j < k by omega]
/-- A row of numbers that has grown; all else is as it was. -/
structure GrwQ (B : Nat) (V : World) (d0 : Option Addr) (L : List Int) (u : World) (d : Option Addr) (c : Nat) : Prop where
  own : CapR B u d c L
  keep : ∀ k, k < V.heap.size → (∀ y, d0 = some y → y.block ≠ k) → u.heap[k]? = V.heap[k]?
  new : ∀ z, d = some z → d0 = some z ∨ V.heap.size ≤ z.block
  size : V.heap.size ≤ u.heap.size
  os : u.os = V.os
  tape : u.tape = V.tape
  output : u.output = V.output
theorem GrwQ.below {B : Nat} {V u : World} {d0 d : Option Addr} {L : List Int} {c : Nat} (h : GrwQ B V d0 L u d c) (h0 : ∀ y, d0 = some y → B ≤ y.block) (hB : B ≤ V.heap.size) : Below B V u :=
  ⟨h.os, h.tape, h.output, h.size, fun k hk => h.keep k (Nat.lt_of_lt_of_le hk hB) fun y hy e => by have := h0 y hy; omega⟩
theorem wpList_appNq {w : World} {ops : Array Oper} {rest : List Oper} {o : Oper} {a : Act} {Q : Exit → Act → World → Prop} (hgd : o.guard = none) (s x : Operand) (ho : o.op = .call { callee := .builtin .append, args := #[s, x], argTypes := #[22, 22] })
    (B : Nat) (d0 : Option Addr) (c0 : Nat) (zs : List Int) (n : Nat) (hn : zs.length = n) (hs : a.eval s = .slice d0 n c0) (hown : CapR B w d0 c0 zs) (g : Nat) (y : Int) (hx : a.eval x = .slice (some ⟨g, 0, none⟩) 1 1) (h0 : w.cell? ⟨g, 0, none⟩ = some (.int .i64 y)) (hb : n ≤ 10000000) (hB : B ≤ w.heap.size)
    (h : ∀ d c' w', GrwQ B w d0 (zs ++ [y]) w' d c' → wpList Try.prog ops Q rest (a.put o.dst (.slice d (n + 1) c')) w') : wpList Try.prog ops Q (o :: rest) a w := by
  subst hn
  obtain ⟨i0, hi, hz0, hz1, hz2⟩ := info_parts Try.info3
  refine wpList_append_told w hgd s x 22 ho B 3 i0 _ 1 8 Try.underlying22 hi hz0 hz1 hz2 rfl (by decide) _ zs.length (zs.map (Value.int .i64)) hs hown ⟨g, 0, none⟩ 1 1 (by decide) [.int .i64 y] hx rfl (fun j u hu => ?_) (fun u hu => ?_) (by unfold maxLen; omega) (by omega) hB ?_
  · match j, hu with
    | 0, hu => cases hu; simpa [Addr.add] using h0
  · rw [List.mem_singleton.1 hu]; rfl
  intro v' w' hown1 hgrow
  have hown' : w'.ownsRow B 3 1 v' (zs ++ [y]).length ((zs ++ [y]).map (Value.int .i64)) := by
    rw [List.map_append, List.length_append]
    exact hown1
  rcases hgrow with ⟨g1, cap, e1, rfl, hg⟩ | ⟨cap, rfl, hg⟩
  · cases e1
    refine h _ _ w' ⟨by unfold CapR; simpa using hown', fun k hk hne => hg.block k hk (fun e => by cases e; exact hne _ rfl rfl), fun z hz => .inl hz, hg.size, hg.os, hg.tape, hg.output⟩
  · refine h _ _ w' ⟨by unfold CapR; simpa using hown', fun k hk hne => hg.block k hk (fun e => by cases e), fun z hz => by cases hz; exact .inr (Nat.le_refl _), hg.size, hg.os, hg.tape, hg.output⟩
/-! ### the book -/
/-- What a book writes. -/
def Bky (w : World) (k : Nat) : Prop := (∃ cs, BlkA 54 k w cs) ∨ (∃ cs, BlkA 56 k w cs) ∨ ∃ es c, w.heap[k]? = some (.map es c)
theorem Bky.keep {w w' : World} {k : Nat} (h : Bky w k) (hb : w'.heap[k]? = w.heap[k]?) : Bky w' k := by
  rcases h with ⟨cs, h⟩ | ⟨cs, h⟩ | ⟨es, c, h⟩
  · exact .inl ⟨cs, h.keep hb⟩
  · exact .inr (.inl ⟨cs, h.keep hb⟩)
  · exact .inr (.inr ⟨es, c, hb.trans h⟩)
theorem IntB.off {w : World} {k : Nat} (h : IntB w k) : ¬ Bky w k := by
  obtain ⟨cs, h⟩ := h
  unfold BlkA at h
  rintro (⟨cs', h'⟩ | ⟨cs', h'⟩ | ⟨es, c, h'⟩)
  · unfold BlkA at h'; rw [h] at h'; simp at h'
  · unfold BlkA at h'; rw [h] at h'; simp at h'
  · rw [h] at h'; simp at h'
theorem TyZ.off {w : World} {k : Nat} (h : TyZ w k) : ¬ Bky w k := by
  obtain ⟨cs, h⟩ := h
  unfold BlkA at h
  rintro (⟨cs', h'⟩ | ⟨cs', h'⟩ | ⟨es, c, h'⟩)
  · unfold BlkA at h'; rw [h] at h'; simp at h'
  · unfold BlkA at h'; rw [h] at h'; simp at h'
  · rw [h] at h'; simp at h'
/-- All stays but what a book writes, from B on. -/
structure Fr (B : Nat) (w w' : World) : Prop where
  os : w'.os = w.os
  tape : w'.tape = w.tape
  output : w'.output = w.output
  size : w.heap.size ≤ w'.heap.size
  keep : ∀ k, k < w.heap.size → (k < B ∨ ¬ Bky w k) → w'.heap[k]? = w.heap[k]?
theorem Fr.refl (B : Nat) (w : World) : Fr B w w := ⟨rfl, rfl, rfl, Nat.le_refl _, fun _ _ _ => rfl⟩
theorem Fr.of_below {B : Nat} {w w' : World} (h : Below w.heap.size w w') : Fr B w w' := ⟨h.os, h.tape, h.output, h.size, fun k hk _ => h.block k hk⟩
theorem Fr.trans {B : Nat} {a b c : World} (h : Fr B a b) (g : Fr B b c) : Fr B a c :=
  ⟨g.os.trans h.os, g.tape.trans h.tape, g.output.trans h.output, Nat.le_trans h.size g.size, fun k hk hn => by
    have e := h.keep k hk hn
    rw [g.keep k (Nat.lt_of_lt_of_le hk h.size) (hn.imp id fun q r => q (r.keep e.symm)), e]⟩
theorem Fr.below {B : Nat} {w w' : World} (h : Fr B w w') (hB : B ≤ w.heap.size) : Below B w w' := ⟨h.os, h.tape, h.output, h.size, fun k hk => h.keep k (Nat.lt_of_lt_of_le hk hB) (.inl hk)⟩
theorem Fr.of_but {B K : Nat} {w w' : World} (h : But K w w') (hB : B ≤ K) (hK : Bky w K) : Fr B w w' := ⟨h.os, h.tape, h.output, h.size, fun k hk hn => h.block k hk (by
  rintro rfl
  rcases hn with q | q
  · omega
  · exact q hK)⟩
theorem Fr.alloc {B : Nat} {w w' : World} (h : Fr B w w') (o : Obj) : Fr B w (w'.alloc o) := h.trans (Fr.of_below ((Below.refl _ _).alloc (Nat.le_refl _) o))
/-- A book: p its struct, m1 and m2 its maps, kd what it knows; F tells where bodies lie. -/
structure BkW (B : Nat) (F : Nat → Prop) (w : World) (p m1 m2 : Nat) (kd : Option Addr) (kc : Nat) (R LK : List (List Int)) (Kb : List (Int × Int × List Int)) (S : List Lv) : Prop where
  blk : BlkA 54 p w #[.map (some m1), .map (some m2), .slice kd S.length kc]
  lop : B ≤ p
  lo1 : B ≤ m1
  lo2 : B ≤ m2
  ne : m1 ≠ m2
  mp1 : MapI 65 0 w m1 LK
  mp2 : MapI 71 1 w m2 R
  own : CapK B w kd kc S
  len : S.length = Kb.length
  bod : ∀ (i : Nat) s, S[i]? = some s → ∃ bs, Kb[i]? = some (s.t, s.n, bs) ∧ s.k = bs.length ∧ At w s.a bs ∧ ∀ x, s.a = some x → F x.block ∧ IntB w x.block
theorem BkW.keep {B : Nat} {F : Nat → Prop} {w w' : World} {p m1 m2 : Nat} {kd : Option Addr} {kc : Nat} {R LK : List (List Int)} {Kb : List (Int × Int × List Int)} {S : List Lv} (h : BkW B F w p m1 m2 kd kc R LK Kb S) (hk : ∀ k, (B ≤ k ∧ Bky w k) ∨ (F k ∧ IntB w k) → w'.heap[k]? = w.heap[k]?) : BkW B F w' p m1 m2 kd kc R LK Kb S := by
  refine ⟨h.blk.keep (hk _ (.inl ⟨h.lop, .inl ⟨_, h.blk⟩⟩)), h.lop, h.lo1, h.lo2, h.ne, h.mp1.keep (hk _ (.inl ⟨h.lo1, .inr (.inr h.mp1.is)⟩)), h.mp2.keep (hk _ (.inl ⟨h.lo2, .inr (.inr h.mp2.is)⟩)), h.own.keep (fun x hx => hk _ (.inl ⟨(h.own.lt x hx).1, .inr (.inl ?_)⟩)), h.len, fun i s hs => ?_⟩
  · have e := h.own.at0 x hx
    have h2 := h.own
    rw [hx, e] at h2
    exact h2.ty
  · obtain ⟨bs, h1, h2, h3, h4⟩ := h.bod i s hs
    exact ⟨bs, h1, h2, h3.keepQ fun x hx => hk _ (.inr (h4 x hx)), fun x hx => ⟨(h4 x hx).1, (h4 x hx).2.keep (hk _ (.inr (h4 x hx)))⟩⟩
theorem BkW.mono {B : Nat} {F G : Nat → Prop} {w : World} {p m1 m2 : Nat} {kd : Option Addr} {kc : Nat} {R LK : List (List Int)} {Kb : List (Int × Int × List Int)} {S : List Lv} (h : BkW B F w p m1 m2 kd kc R LK Kb S) (hk : ∀ k, F k → k < w.heap.size → G k) : BkW B G w p m1 m2 kd kc R LK Kb S :=
  ⟨h.blk, h.lop, h.lo1, h.lo2, h.ne, h.mp1, h.mp2, h.own, h.len, fun i s hs => by
    obtain ⟨bs, h1, h2, h3, h4⟩ := h.bod i s hs
    exact ⟨bs, h1, h2, h3, fun x hx => ⟨hk _ (h4 x hx).1 (h4 x hx).2.lt, (h4 x hx).2⟩⟩⟩
/-- A book of these loops; no more than q of them, and of rows. -/
def BkM (B : Nat) (F : Nat → Prop) (w : World) (p : Nat) (V : List Lp) (q : Nat) : Prop := ∃ R Ps LK Kb S m1 m2 kd kc, BkP R Ps LK Kb V ∧ BkW B F w p m1 m2 kd kc R LK Kb S ∧ V.length ≤ q ∧ R.length ≤ q
theorem BkM.keep {B : Nat} {F : Nat → Prop} {w w' : World} {p : Nat} {V : List Lp} {q : Nat} (h : BkM B F w p V q) (hk : ∀ k, (B ≤ k ∧ Bky w k) ∨ (F k ∧ IntB w k) → w'.heap[k]? = w.heap[k]?) : BkM B F w' p V q := by
  obtain ⟨R, Ps, LK, Kb, S, m1, m2, kd, kc, h1, h2, h3, h4⟩ := h
  exact ⟨R, Ps, LK, Kb, S, m1, m2, kd, kc, h1, h2.keep hk, h3, h4⟩
theorem Bky.lt {w : World} {k : Nat} (h : Bky w k) : k < w.heap.size := by
  rcases h with ⟨cs, h⟩ | ⟨cs, h⟩ | ⟨es, c, h⟩
  · exact h.lt
  · exact h.lt
  · exact (Array.getElem?_eq_some_iff.1 h).1
theorem BkM.later {B : Nat} {F : Nat → Prop} {w w' : World} {p : Nat} {V : List Lp} {q : Nat} (h : BkM B F w p V q) (hb : Below w.heap.size w w') : BkM B F w' p V q := h.keep fun k hk => hb.block k (by
  rcases hk with q | q
  · exact q.2.lt
  · exact q.2.lt)
theorem BkM.mono {B : Nat} {F G : Nat → Prop} {w : World} {p : Nat} {V : List Lp} {q : Nat} (h : BkM B F w p V q) (hk : ∀ k, F k → k < w.heap.size → G k) : BkM B G w p V q := by
  obtain ⟨R, Ps, LK, Kb, S, m1, m2, kd, kc, h1, h2, h3, h4⟩ := h
  exact ⟨R, Ps, LK, Kb, S, m1, m2, kd, kc, h1, h2.mono hk, h3, h4⟩
theorem BkM.more {B : Nat} {F : Nat → Prop} {w : World} {p : Nat} {V : List Lp} {q q' : Nat} (h : BkM B F w p V q) (hq : q ≤ q') : BkM B F w p V q' := by
  obtain ⟨R, Ps, LK, Kb, S, m1, m2, kd, kc, h1, h2, h3, h4⟩ := h
  exact ⟨R, Ps, LK, Kb, S, m1, m2, kd, kc, h1, h2, by omega, by omega⟩
theorem BkM.one {B : Nat} {F : Nat → Prop} {w : World} {p : Nat} {V : List Lp} {q : Nat} (h : BkM B F w p V q) : V.Nodup := by
  obtain ⟨R, Ps, LK, Kb, S, m1, m2, kd, kc, h1, h2, h3, h4⟩ := h
  exact h1.one
theorem BkM.few {B : Nat} {F : Nat → Prop} {w : World} {p : Nat} {V : List Lp} {q : Nat} (h : BkM B F w p V q) : V.length ≤ q := by
  obtain ⟨R, Ps, LK, Kb, S, m1, m2, kd, kc, h1, h2, h3, h4⟩ := h
  exact h3
def RowE (B : Nat) (F : Nat → Prop) (p m1 m2 : Nat) (kd : Option Addr) (kc : Nat) (R Ps LK : List (List Int)) (Kb : List (Int × Int × List Int)) (S : List Lv) (bs : List Int) (w : World) (e : Ending) (w' : World) : Prop := ∃ (r : Nat) (R' T : List (List Int)), e = .returned (.int .i64 (r : Int)) ∧ RowP R' (Ps ++ T) ∧ (Ps ++ T)[r]? = some bs ∧ BkW B F w' p m1 m2 kd kc R' LK Kb S ∧ Fr B w w' ∧ R'.length ≤ R.length + bs.length
theorem take_succ_nth {bs : List Int} {k : Nat} (h : k < bs.length) : bs.take (k + 1) = bs.take k ++ [nth bs k] := by
  rw [List.take_add_one]
  unfold nth
  rw [List.getD_eq_getElem?_getD, List.getElem?_eq_getElem h]
  rfl
theorem RowP.few {R Ps : List (List Int)} (h : RowP R Ps) {r : Nat} {q : List Int} (hr : Ps[r]? = some q) : r ≤ R.length := by
  have := (List.getElem?_eq_some_iff.1 hr).1
  have := h.len
  omega
set_option maxRecDepth 100000 in
set_option maxHeartbeats 16000000 in
theorem rowQ_any (B : Nat) (F : Nat → Prop) (p m1 m2 : Nat) (kd : Option Addr) (kc : Nat) (R Ps LK : List (List Int)) (Kb : List (Int × Int × List Int)) (S : List Lv) (bs : List Int) (a : Option Addr) (c : Nat) (w : World) (hR : RowP R Ps) (hB : BkW B F w p m1 m2 kd kc R LK Kb S) (hA : At w a bs) (hI : ∀ y, a = some y → IntB w y.block) (hr : ∀ x ∈ bs, InM x) (hn : R.length + bs.length ≤ 1000000) :
    Calls Try.prog 22 #[.pointer (some ⟨p, 0, none⟩), .slice a bs.length c] w (RowE B F p m1 m2 kd kc R Ps LK Kb S bs w) := by
  obtain ⟨RE, hRE⟩ : ∃ Q : Ending → World → Prop, RowE B F p m1 m2 kd kc R Ps LK Kb S bs w = Q := ⟨_, rfl⟩
  rw [hRE]
  have HRE := hiddenN hRE
  have HR0 := hiddenN hR
  have HB0 := hiddenN hB
  have HA := hiddenN hA
  have HI := hiddenN hI
  have HIN := hiddenN hr
  obtain ⟨L, hL⟩ : ∃ q, bs.length = q := ⟨_, rfl⟩
  have HL := hiddenN hL
  rw [hL] at hn ⊢
  have HRN := hiddenN hn
  have hLm : L ≤ 1000000 := by omega
  clear hRE hR hB hA hI hr hL hn
  go_enter Try.func22, Try.ntmps22
  go_upto_region 3 with fail
  go_loopg [5, 11] L (fun gk nv iv wr => ∃ (k r : Nat) (R' T : List (List Int)), k ≤ L ∧ gk = L - k ∧ iv = .int .i64 (k : Int) ∧ nv = .int .i64 (r : Int) ∧ RowP R' (Ps ++ T) ∧ (Ps ++ T)[r]? = some (bs.take k) ∧ BkW B F wr p m1 m2 kd kc R' LK Kb S ∧ Fr B w wr ∧ R'.length ≤ R.length + k)
  case atStart => exact ⟨0, 0, R, [], Nat.zero_le _, rfl, rfl, rfl, by rw [List.append_nil]; exact HR0.out, by rw [List.append_nil]; exact HR0.out.zero, HB0.out, Fr.refl _ _, Nat.le_refl _⟩
  case round =>
    obtain ⟨k, r, R', T, hk, rfl, rfl, rfl, hRP, hRr, hBk, hFr, hRl⟩ := hrel
    have RP := hiddenN hRP
    have RR := hiddenN hRr
    have BK := hiddenN hBk
    have FW := hiddenN hFr
    have RL := hiddenN hRl
    have hrb : r ≤ 1000000 := by have := hRP.few hRr; have := HRN.out; omega
    clear hRP hRr hBk hFr hRl HB0 HR0
    by_cases hlt : k < L
    · have hki : (k : Int) < (L : Int) := by omega
      have hkL : k < bs.length := by rw [HL.out]; exact hlt
      rcases HA.out with e | ⟨ab, ao, rfl, hc⟩
      · rw [e] at hkL; exact absurd hkL (Nat.not_lt_zero _)
      have hib := HI.out _ rfl
      have c0 : wr.cell? ⟨ab, ao + k, none⟩ = some (.int .i64 (nth bs k)) := by rw [cell_blk (FW.out.keep ab hib.lt (.inr hib.off))]; exact hc k hkL
      have TK := hiddenN (take_succ_nth hkL)
      have hx : InM (nth bs k) := by
        refine HIN.out _ ?_
        unfold nth
        rw [List.getD_eq_getElem?_getD, List.getElem?_eq_getElem hkL]
        exact List.getElem_mem hkL
      clear hc hib hkL
      obtain ⟨x, hxe⟩ : ∃ q, nth bs k = q := ⟨_, rfl⟩
      rw [hxe] at c0 TK hx
      clear hxe
      have hrI : InM (r : Int) := ⟨by omega, by omega⟩
      have KL := hiddenN (keyLink hrI hx)
      have b1 := (Below.refl wr.heap.size wr).alloc (Nat.le_refl _) (.cells #[.int .i64 (r : Int), .int .i64 x] 71)
      have X1 := hiddenN (blkA_new 71 wr #[.int .i64 (r : Int), .int .i64 x])
      have BK1 := hiddenN (BK.out.keep (w' := wr.alloc (.cells #[.int .i64 (r : Int), .int .i64 x] 71)) fun j hj => b1.block j (by rcases hj with q | q <;> exact q.2.lt))
      have FW1 := hiddenN (FW.out.alloc (.cells #[.int .i64 (r : Int), .int .i64 x] 71))
      clear b1 BK FW
      go_upto_region 6 with fail
      obtain ⟨lb, hlb⟩ : ∃ q, wr.heap.size = q := ⟨_, rfl⟩
      rw [hlb] at X1 ⊢
      clear hlb c0
      generalize wr.alloc (.cells #[.int .i64 (r : Int), .int .i64 x] 71) = W1 at *
      have x0 := X1.out.cell (k := 0) rfl
      have x1 := X1.out.cell (k := 1) rfl
      have y1 := BK1.out.blk.cell (k := 1) rfl
      simp only [List.getElem_toArray, List.getElem_cons_zero, List.getElem_cons_succ] at x0 x1 y1
      by_cases hin : [(r : Int), x] ∈ R'
      · obtain ⟨ii, hii⟩ : ∃ q : Nat, idxM R' [(r : Int), x] + 1 = q := ⟨_, rfl⟩
        obtain ⟨vv, hvv⟩ : ∃ q : Int, q = (ii : Int) := ⟨_, rfl⟩
        have LK6 : Hid (∀ u, Below W1.heap.size W1 u → (Instr.lookup 51 (.map (some m2)) (.agg #[.int .i64 (r : Int), .int .i64 x]) false).run Try.prog u = .ok (.int .i64 vv) u) := fun u hu => by
          have := (BK1.out.mp2.keep (hu.block _ BK1.out.mp2.lt)).look keyedLink Try.underlying51 KL.out
          rw [if_pos hin, hii] at this
          rw [hvv]
          exact this
        have hbb : (vv == 0) = false := by rw [hvv, ← hii]; simp; omega
        have AT := hiddenN (RP.out.there RR.out hin)
        have HII := hiddenN hii
        have HVV := hiddenN hvv
        clear hii hin hvv
        refine wp_region_said 6 (fun i u v => match i with
            | 0 => v = .pointer (some ⟨p, 0, none⟩)
            | 1 => v = .pointer (some ⟨p, 0, none⟩)
            | 2 => v = .pointer (some ⟨p, 1, none⟩)
            | 3 => v = .map (some m2)
            | 4 => v = .agg #[.int .i64 (r : Int), .int .i64 x]
            | 5 => v = .int .i64 vv
            | _ => True) (by kernel_rfl) (by kernel_rfl) (by kernel_rfl) (by kernel_rfl) ?_ ?_ ?_
        · intro i w v w' h hb
          match i, h with
          | 0, h => exact h
          | 1, h => exact h
          | 2, h => exact h
          | 3, h => exact h
          | 4, h => exact h
          | 5, h => exact h
          | _ + 6, _ => trivial
        · intro i o ρ w' hi ho hb hc hf hfr hdep
          match i, hi with
          | 0, _ =>
            simp only [gTA, gCZ, gSI] at ho
            subst ho
            have ts : ρ (.tmp 0) = .pointer (some ⟨p, 0, none⟩) := hfr 0 (by kernel_rfl)
            simp [go_sem, ts]
            exact ⟨Below.refl _ _, rfl⟩
          | 1, _ =>
            simp only [gTA, gCZ, gCS, gSI] at ho
            subst ho
            have t0 : ρ (.tmp 18) = .pointer (some ⟨p, 0, none⟩) := hdep 0 18 (by kernel_rfl) (by kernel_rfl)
            simp [go_sem, t0]
            exact ⟨Below.refl _ _, rfl⟩
          | 2, _ =>
            simp only [gTA, gCZ, gCS, gSI] at ho
            subst ho
            have t0 : ρ (.tmp 19) = .pointer (some ⟨p, 0, none⟩) := hdep 1 19 (by kernel_rfl) (by kernel_rfl)
            simp [go_sem, t0]
            exact ⟨Below.refl _ _, rfl⟩
          | 3, _ =>
            simp only [gTA, gCZ, gCS, gSI] at ho
            subst ho
            have kc := cellN_later hb y1
            have t0 : ρ (.tmp 20) = .pointer (some ⟨p, 1, none⟩) := hdep 2 20 (by kernel_rfl) (by kernel_rfl)
            simp [go_sem, t0, kc]
            exact ⟨Below.refl _ _, rfl⟩
          | 4, _ =>
            simp only [gTA, gCZ, gCS, gSI] at ho
            subst ho
            have ts : ρ (.tmp 8) = .pointer (some ⟨lb, 0, none⟩) := hfr 8 (by kernel_rfl)
            have kx0 := cellN_later hb x0
            have kx1 := cellN_later hb x1
            simp [go_sem, ts, kx0, kx1]
            exact ⟨Below.refl _ _, rfl⟩
          | 5, _ =>
            simp only [gTA, gCZ, gCS, gSI] at ho
            subst ho
            have lk := LK6.out w' hb
            have t0 : ρ (.tmp 21) = .map (some m2) := hdep 3 21 (by kernel_rfl) (by kernel_rfl)
            have t1 : ρ (.tmp 22) = .agg #[.int .i64 (r : Int), .int .i64 x] := hdep 4 22 (by kernel_rfl) (by kernel_rfl)
            simp [go_sem, t0, t1, lk]
            exact ⟨Below.refl _ _, rfl⟩
        · intro V w9 q9 hS
          have e0 : V 0 = .pointer (some ⟨p, 0, none⟩) := hS 0 (by decide)
          have e1 : V 1 = .pointer (some ⟨p, 0, none⟩) := hS 1 (by decide)
          have e2 : V 2 = .pointer (some ⟨p, 1, none⟩) := hS 2 (by decide)
          have e3 : V 3 = .map (some m2) := hS 3 (by decide)
          have e4 : V 4 = .agg #[.int .i64 (r : Int), .int .i64 x] := hS 4 (by decide)
          have e5 : V 5 = .int .i64 vv := hS 5 (by decide)
          simp only [List.drop_succ_cons, List.drop_zero, List.take_succ_cons, List.take_zero, puts, e0, e1, e2, e3, e4, e5]
          simp only [Act.put, List.setIfInBounds_toArray, List.set_cons_zero, List.set_cons_succ]
          clear hS e0 e1 e2 e3 e4 e5 V
          have y1 := cellN_later q9 y1
          have x0 := cellN_later q9 x0
          have x1 := cellN_later q9 x1
          have BK9 := hiddenN (BK1.out.keep (w' := w9) fun j hj => q9.block j (by rcases hj with q | q <;> exact q.2.lt))
          have LK8 : Hid (∀ u, Below w9.heap.size w9 u → (Instr.lookup 51 (.map (some m2)) (.agg #[.int .i64 (r : Int), .int .i64 x]) false).run Try.prog u = .ok (.int .i64 vv) u) := fun u hu => LK6.out u (q9.trans (hu.mono q9.size))
          have FW9 := hiddenN (FW1.out.trans (Fr.of_below q9))
          clear q9 BK1 FW1 LK6
          go_upto_region 8 with fail
          refine wp_region_said 6 (fun i u v => match i with
              | 0 => v = .pointer (some ⟨p, 0, none⟩)
              | 1 => v = .pointer (some ⟨p, 0, none⟩)
              | 2 => v = .pointer (some ⟨p, 1, none⟩)
              | 3 => v = .map (some m2)
              | 4 => v = .agg #[.int .i64 (r : Int), .int .i64 x]
              | 5 => v = .int .i64 vv
              | _ => True) (by kernel_rfl) (by kernel_rfl) (by kernel_rfl) (by kernel_rfl) ?_ ?_ ?_
          · intro i w v w' h hb
            match i, h with
            | 0, h => exact h
            | 1, h => exact h
            | 2, h => exact h
            | 3, h => exact h
            | 4, h => exact h
            | 5, h => exact h
            | _ + 6, _ => trivial
          · intro i o ρ w' hi ho hb hc hf hfr hdep
            match i, hi with
            | 0, _ =>
              simp only [gTA, gCZ, gSI] at ho
              subst ho
              have ts : ρ (.tmp 0) = .pointer (some ⟨p, 0, none⟩) := hfr 0 (by kernel_rfl)
              simp [go_sem, ts]
              exact ⟨Below.refl _ _, rfl⟩
            | 1, _ =>
              simp only [gTA, gCZ, gCS, gSI] at ho
              subst ho
              have t0 : ρ (.tmp 36) = .pointer (some ⟨p, 0, none⟩) := hdep 0 36 (by kernel_rfl) (by kernel_rfl)
              simp [go_sem, t0]
              exact ⟨Below.refl _ _, rfl⟩
            | 2, _ =>
              simp only [gTA, gCZ, gCS, gSI] at ho
              subst ho
              have t0 : ρ (.tmp 37) = .pointer (some ⟨p, 0, none⟩) := hdep 1 37 (by kernel_rfl) (by kernel_rfl)
              simp [go_sem, t0]
              exact ⟨Below.refl _ _, rfl⟩
            | 3, _ =>
              simp only [gTA, gCZ, gCS, gSI] at ho
              subst ho
              have kc := cellN_later hb y1
              have t0 : ρ (.tmp 38) = .pointer (some ⟨p, 1, none⟩) := hdep 2 38 (by kernel_rfl) (by kernel_rfl)
              simp [go_sem, t0, kc]
              exact ⟨Below.refl _ _, rfl⟩
            | 4, _ =>
              simp only [gTA, gCZ, gCS, gSI] at ho
              subst ho
              have ts : ρ (.tmp 8) = .pointer (some ⟨lb, 0, none⟩) := hfr 8 (by kernel_rfl)
              have kx0 := cellN_later hb x0
              have kx1 := cellN_later hb x1
              simp [go_sem, ts, kx0, kx1]
              exact ⟨Below.refl _ _, rfl⟩
            | 5, _ =>
              simp only [gTA, gCZ, gCS, gSI] at ho
              subst ho
              have lk := LK8.out w' hb
              have t0 : ρ (.tmp 39) = .map (some m2) := hdep 3 39 (by kernel_rfl) (by kernel_rfl)
              have t1 : ρ (.tmp 40) = .agg #[.int .i64 (r : Int), .int .i64 x] := hdep 4 40 (by kernel_rfl) (by kernel_rfl)
              simp [go_sem, t0, t1, lk]
              exact ⟨Below.refl _ _, rfl⟩
          · intro V w8 q9 hS
            have e0 : V 0 = .pointer (some ⟨p, 0, none⟩) := hS 0 (by decide)
            have e1 : V 1 = .pointer (some ⟨p, 0, none⟩) := hS 1 (by decide)
            have e2 : V 2 = .pointer (some ⟨p, 1, none⟩) := hS 2 (by decide)
            have e3 : V 3 = .map (some m2) := hS 3 (by decide)
            have e4 : V 4 = .agg #[.int .i64 (r : Int), .int .i64 x] := hS 4 (by decide)
            have e5 : V 5 = .int .i64 vv := hS 5 (by decide)
            simp only [List.drop_succ_cons, List.drop_zero, List.take_succ_cons, List.take_zero, puts, e0, e1, e2, e3, e4, e5]
            simp only [Act.put, List.setIfInBounds_toArray, List.set_cons_zero, List.set_cons_succ]
            clear hS e0 e1 e2 e3 e4 e5 V
            have BK8 := hiddenN (BK9.out.keep (w' := w8) fun j hj => q9.block j (by rcases hj with q | q <;> exact q.2.lt))
            have FW8 := hiddenN (FW9.out.trans (Fr.of_below q9))
            clear q9 BK9 FW9 LK8 x0 x1 y1
            go_wp2
            go_roundg (L - (k + 1))
            case measure => omega
            case rel => exact ⟨k + 1, ii, R', T, by omega, rfl, by go_num, by rw [HVV.out], RP.out, by rw [TK.out, ← HII.out]; exact AT.out, BK8.out, FW8.out, by have := RL.out; omega⟩
      · obtain ⟨rn, hrnE⟩ : ∃ q : Nat, R'.length = q := ⟨_, rfl⟩
        have LK6 : Hid (∀ u, Below W1.heap.size W1 u → (Instr.lookup 51 (.map (some m2)) (.agg #[.int .i64 (r : Int), .int .i64 x]) false).run Try.prog u = .ok (.int .i64 0) u) := fun u hu => by
          have := (BK1.out.mp2.keep (hu.block _ BK1.out.mp2.lt)).look keyedLink Try.underlying51 KL.out
          rw [if_neg hin] at this
          exact this
        obtain ⟨vv, hvv⟩ : ∃ q : Int, q = 0 := ⟨_, rfl⟩
        rw [← hvv] at LK6
        have hbb : (vv == 0) = true := by rw [hvv]; rfl
        have HIN2 := hiddenN hin
        have HRNE := hiddenN hrnE
        have hrnb : rn ≤ 1000000 := by have := RL.out; have := HRN.out; omega
        clear hin hvv hrnE
        refine wp_region_said 6 (fun i u v => match i with
            | 0 => v = .pointer (some ⟨p, 0, none⟩)
            | 1 => v = .pointer (some ⟨p, 0, none⟩)
            | 2 => v = .pointer (some ⟨p, 1, none⟩)
            | 3 => v = .map (some m2)
            | 4 => v = .agg #[.int .i64 (r : Int), .int .i64 x]
            | 5 => v = .int .i64 vv
            | _ => True) (by kernel_rfl) (by kernel_rfl) (by kernel_rfl) (by kernel_rfl) ?_ ?_ ?_
        · intro i w v w' h hb
          match i, h with
          | 0, h => exact h
          | 1, h => exact h
          | 2, h => exact h
          | 3, h => exact h
          | 4, h => exact h
          | 5, h => exact h
          | _ + 6, _ => trivial
        · intro i o ρ w' hi ho hb hc hf hfr hdep
          match i, hi with
          | 0, _ =>
            simp only [gTA, gCZ, gSI] at ho
            subst ho
            have ts : ρ (.tmp 0) = .pointer (some ⟨p, 0, none⟩) := hfr 0 (by kernel_rfl)
            simp [go_sem, ts]
            exact ⟨Below.refl _ _, rfl⟩
          | 1, _ =>
            simp only [gTA, gCZ, gCS, gSI] at ho
            subst ho
            have t0 : ρ (.tmp 18) = .pointer (some ⟨p, 0, none⟩) := hdep 0 18 (by kernel_rfl) (by kernel_rfl)
            simp [go_sem, t0]
            exact ⟨Below.refl _ _, rfl⟩
          | 2, _ =>
            simp only [gTA, gCZ, gCS, gSI] at ho
            subst ho
            have t0 : ρ (.tmp 19) = .pointer (some ⟨p, 0, none⟩) := hdep 1 19 (by kernel_rfl) (by kernel_rfl)
            simp [go_sem, t0]
            exact ⟨Below.refl _ _, rfl⟩
          | 3, _ =>
            simp only [gTA, gCZ, gCS, gSI] at ho
            subst ho
            have kc := cellN_later hb y1
            have t0 : ρ (.tmp 20) = .pointer (some ⟨p, 1, none⟩) := hdep 2 20 (by kernel_rfl) (by kernel_rfl)
            simp [go_sem, t0, kc]
            exact ⟨Below.refl _ _, rfl⟩
          | 4, _ =>
            simp only [gTA, gCZ, gCS, gSI] at ho
            subst ho
            have ts : ρ (.tmp 8) = .pointer (some ⟨lb, 0, none⟩) := hfr 8 (by kernel_rfl)
            have kx0 := cellN_later hb x0
            have kx1 := cellN_later hb x1
            simp [go_sem, ts, kx0, kx1]
            exact ⟨Below.refl _ _, rfl⟩
          | 5, _ =>
            simp only [gTA, gCZ, gCS, gSI] at ho
            subst ho
            have lk := LK6.out w' hb
            have t0 : ρ (.tmp 21) = .map (some m2) := hdep 3 21 (by kernel_rfl) (by kernel_rfl)
            have t1 : ρ (.tmp 22) = .agg #[.int .i64 (r : Int), .int .i64 x] := hdep 4 22 (by kernel_rfl) (by kernel_rfl)
            simp [go_sem, t0, t1, lk]
            exact ⟨Below.refl _ _, rfl⟩
        · intro V w9 q9 hS
          have e0 : V 0 = .pointer (some ⟨p, 0, none⟩) := hS 0 (by decide)
          have e1 : V 1 = .pointer (some ⟨p, 0, none⟩) := hS 1 (by decide)
          have e2 : V 2 = .pointer (some ⟨p, 1, none⟩) := hS 2 (by decide)
          have e3 : V 3 = .map (some m2) := hS 3 (by decide)
          have e4 : V 4 = .agg #[.int .i64 (r : Int), .int .i64 x] := hS 4 (by decide)
          have e5 : V 5 = .int .i64 vv := hS 5 (by decide)
          simp only [List.drop_succ_cons, List.drop_zero, List.take_succ_cons, List.take_zero, puts, e0, e1, e2, e3, e4, e5]
          simp only [Act.put, List.setIfInBounds_toArray, List.set_cons_zero, List.set_cons_succ]
          clear hS e0 e1 e2 e3 e4 e5 V
          clear LK6
          have y1 := cellN_later q9 y1
          have x0 := cellN_later q9 x0
          have x1 := cellN_later q9 x1
          have BK9 := hiddenN (BK1.out.keep (w' := w9) fun j hj => q9.block j (by rcases hj with q | q <;> exact q.2.lt))
          have FW9 := hiddenN (FW1.out.trans (Fr.of_below q9))
          have X9 := hiddenN (X1.out.below q9)
          clear q9 BK1 FW1 X1
          obtain ⟨rn1, hrn1⟩ : ∃ q : Nat, rn + 1 = q := ⟨_, rfl⟩
          have HR1 := hiddenN hrn1
          have hrn : IntKind.i64.wrap ((rn : Int) + 1) = (rn1 : Int) := by rw [← hrn1, IntKind.wrap_i64]; omega
          have LN7 : Hid (∀ u, Below w9.heap.size w9 u → (Builtin.len_ #[51] 3 #[.map (some m2)]).run Try.prog u = .ok (.int .i64 (rn : Int)) u) := fun u hu => by
            rw [← HRNE.out]
            exact (BK9.out.mp2.keep (hu.block _ BK9.out.mp2.lt)).len Try.underlying51 3
          clear hrn1
          go_upto_region 7 with fail
          refine wp_region_said 11 (fun i u v => match i with
              | 0 => v = .pointer (some ⟨p, 0, none⟩)
              | 1 => v = .pointer (some ⟨p, 0, none⟩)
              | 2 => v = .pointer (some ⟨p, 1, none⟩)
              | 3 => v = .map (some m2)
              | 4 => v = .agg #[.int .i64 (r : Int), .int .i64 x]
              | 5 => v = .pointer (some ⟨p, 0, none⟩)
              | 6 => v = .pointer (some ⟨p, 0, none⟩)
              | 7 => v = .pointer (some ⟨p, 1, none⟩)
              | 8 => v = .map (some m2)
              | 9 => v = .int .i64 (rn : Int)
              | 10 => v = .int .i64 (rn1 : Int)
              | _ => True) (by kernel_rfl) (by kernel_rfl) (by kernel_rfl) (by kernel_rfl) ?_ ?_ ?_
          · intro i w v w' h hb
            match i, h with
            | 0, h => exact h
            | 1, h => exact h
            | 2, h => exact h
            | 3, h => exact h
            | 4, h => exact h
            | 5, h => exact h
            | 6, h => exact h
            | 7, h => exact h
            | 8, h => exact h
            | 9, h => exact h
            | 10, h => exact h
            | _ + 11, _ => trivial
          · intro i o ρ w' hi ho hb hc hf hfr hdep
            match i, hi with
            | 0, _ =>
              simp only [gTA, gCZ, gSI] at ho
              subst ho
              have ts : ρ (.tmp 0) = .pointer (some ⟨p, 0, none⟩) := hfr 0 (by kernel_rfl)
              simp [go_sem, ts]
              exact ⟨Below.refl _ _, rfl⟩
            | 1, _ =>
              simp only [gTA, gCZ, gCS, gSI] at ho
              subst ho
              have t0 : ρ (.tmp 25) = .pointer (some ⟨p, 0, none⟩) := hdep 0 25 (by kernel_rfl) (by kernel_rfl)
              simp [go_sem, t0]
              exact ⟨Below.refl _ _, rfl⟩
            | 2, _ =>
              simp only [gTA, gCZ, gCS, gSI] at ho
              subst ho
              have t0 : ρ (.tmp 26) = .pointer (some ⟨p, 0, none⟩) := hdep 1 26 (by kernel_rfl) (by kernel_rfl)
              simp [go_sem, t0]
              exact ⟨Below.refl _ _, rfl⟩
            | 3, _ =>
              simp only [gTA, gCZ, gCS, gSI] at ho
              subst ho
              have kc := cellN_later hb y1
              have t0 : ρ (.tmp 27) = .pointer (some ⟨p, 1, none⟩) := hdep 2 27 (by kernel_rfl) (by kernel_rfl)
              simp [go_sem, t0, kc]
              exact ⟨Below.refl _ _, rfl⟩
            | 4, _ =>
              simp only [gTA, gCZ, gCS, gSI] at ho
              subst ho
              have ts : ρ (.tmp 8) = .pointer (some ⟨lb, 0, none⟩) := hfr 8 (by kernel_rfl)
              have kx0 := cellN_later hb x0
              have kx1 := cellN_later hb x1
              simp [go_sem, ts, kx0, kx1]
              exact ⟨Below.refl _ _, rfl⟩
            | 5, _ =>
              simp only [gTA, gCZ, gCS, gSI] at ho
              subst ho
              have ts : ρ (.tmp 0) = .pointer (some ⟨p, 0, none⟩) := hfr 0 (by kernel_rfl)
              simp [go_sem, ts]
              exact ⟨Below.refl _ _, rfl⟩
            | 6, _ =>
              simp only [gTA, gCZ, gCS, gSI] at ho
              subst ho
              have t0 : ρ (.tmp 30) = .pointer (some ⟨p, 0, none⟩) := hdep 5 30 (by kernel_rfl) (by kernel_rfl)
              simp [go_sem, t0]
              exact ⟨Below.refl _ _, rfl⟩
            | 7, _ =>
              simp only [gTA, gCZ, gCS, gSI] at ho
              subst ho
              have t0 : ρ (.tmp 31) = .pointer (some ⟨p, 0, none⟩) := hdep 6 31 (by kernel_rfl) (by kernel_rfl)
              simp [go_sem, t0]
              exact ⟨Below.refl _ _, rfl⟩
            | 8, _ =>
              simp only [gTA, gCZ, gCS, gSI] at ho
              subst ho
              have kc := cellN_later hb y1
              have t0 : ρ (.tmp 32) = .pointer (some ⟨p, 1, none⟩) := hdep 7 32 (by kernel_rfl) (by kernel_rfl)
              simp [go_sem, t0, kc]
              exact ⟨Below.refl _ _, rfl⟩
            | 9, _ =>
              simp only [gTA, gCZ, gCS, gSI] at ho
              subst ho
              have ln := LN7.out w' hb
              have t0 : ρ (.tmp 33) = .map (some m2) := hdep 8 33 (by kernel_rfl) (by kernel_rfl)
              simp [go_sem, t0, ln]
              exact ⟨Below.refl _ _, rfl⟩
            | 10, _ =>
              simp only [gTA, gCZ, gCS, gSI] at ho
              subst ho
              have t0 : ρ (.tmp 34) = .int .i64 (rn : Int) := hdep 9 34 (by kernel_rfl) (by kernel_rfl)
              simp [go_sem, t0, hrn, hc]
              exact ⟨Below.refl _ _, rfl⟩
          · intro V w7 q9 hS
            have e0 : V 0 = .pointer (some ⟨p, 0, none⟩) := hS 0 (by decide)
            have e1 : V 1 = .pointer (some ⟨p, 0, none⟩) := hS 1 (by decide)
            have e2 : V 2 = .pointer (some ⟨p, 1, none⟩) := hS 2 (by decide)
            have e3 : V 3 = .map (some m2) := hS 3 (by decide)
            have e4 : V 4 = .agg #[.int .i64 (r : Int), .int .i64 x] := hS 4 (by decide)
            have e5 : V 5 = .pointer (some ⟨p, 0, none⟩) := hS 5 (by decide)
            have e6 : V 6 = .pointer (some ⟨p, 0, none⟩) := hS 6 (by decide)
            have e7 : V 7 = .pointer (some ⟨p, 1, none⟩) := hS 7 (by decide)
            have e8 : V 8 = .map (some m2) := hS 8 (by decide)
            have e9 : V 9 = .int .i64 (rn : Int) := hS 9 (by decide)
            have e10 : V 10 = .int .i64 (rn1 : Int) := hS 10 (by decide)
            simp only [List.drop_succ_cons, List.drop_zero, List.take_succ_cons, List.take_zero, puts, e0, e1, e2, e3, e4, e5, e6, e7, e8, e9, e10]
            simp only [Act.put, List.setIfInBounds_toArray, List.set_cons_zero, List.set_cons_succ]
            clear hS e0 e1 e2 e3 e4 e5 e6 e7 e8 e9 e10 V
            have BK7 := hiddenN (BK9.out.keep (w' := w7) fun j hj => q9.block j (by rcases hj with q | q <;> exact q.2.lt))
            have FW7 := hiddenN (FW9.out.trans (Fr.of_below q9))
            have X7 := hiddenN (X9.out.below q9)
            clear q9 BK9 FW9 LN7 x0 x1 y1 X9 hrn
            obtain ⟨W8, hrun, hM8, hbut⟩ := BK7.out.mp2.put keyedLink Try.underlying51 KL.out HIN2.out (by rw [HRNE.out]; omega)
            rw [HRNE.out, HR1.out] at hrun
            have hrun : (Instr.mapUpdate 51 (.map (some m2)) (.agg #[.int .i64 (r : Int), .int .i64 x]) (.int .i64 (rn1 : Int))).run Try.prog w7 = .ok () W8 := hrun
            have hb2 : Bky w7 m2 := .inr (.inr BK7.out.mp2.is)
            have kp : ∀ j, (B ≤ j ∧ Bky w7 j) ∨ (F j ∧ IntB w7 j) → j ≠ m2 → W8.heap[j]? = w7.heap[j]? := fun j hj hne => hbut.block j (by rcases hj with q | q <;> exact q.2.lt) hne
            have BK8 : Hid (BkW B F W8 p m1 m2 kd kc (R' ++ [[(r : Int), x]]) LK Kb S) := by
              have h := BK7.out
              have p2 : p ≠ m2 := fun e => by
                obtain ⟨es, cl, hq⟩ := h.mp2.is
                have := h.blk
                unfold BlkA at this
                rw [e, hq] at this
                cases this
              have k2 : ∀ y, kd = some y → y.block ≠ m2 := fun y hy e => by
                have e0 := h.own.at0 y hy
                have h2 := h.own
                rw [hy, e0] at h2
                obtain ⟨cs, h3⟩ := h2.ty
                obtain ⟨es, cl, hq⟩ := h.mp2.is
                unfold BlkA at h3
                rw [e, hq] at h3
                cases h3
              refine ⟨h.blk.keep (kp _ (.inl ⟨h.lop, .inl ⟨_, h.blk⟩⟩) p2), h.lop, h.lo1, h.lo2, h.ne, h.mp1.keep (kp _ (.inl ⟨h.lo1, .inr (.inr h.mp1.is)⟩) h.ne), hM8, h.own.keep (fun y hy => hbut.block _ (h.own.lt y hy).2 (k2 y hy)), h.len, fun i s hs => ?_⟩
              obtain ⟨bs', q1, q2, q3, q4⟩ := h.bod i s hs
              have off : ∀ y, s.a = some y → y.block ≠ m2 := fun y hy e => (q4 y hy).2.off (e ▸ hb2)
              exact ⟨bs', q1, q2, q3.keepQ fun y hy => hbut.block _ (q4 y hy).2.lt (off y hy), fun y hy => ⟨(q4 y hy).1, (q4 y hy).2.keep (hbut.block _ (q4 y hy).2.lt (off y hy))⟩⟩
            have FW8 := hiddenN (FW7.out.trans (Fr.of_but hbut BK7.out.lo2 hb2))
            have hlm : lb ≠ m2 := fun e => by
              obtain ⟨es, cl, hq⟩ := BK7.out.mp2.is
              have := X7.out
              unfold BlkA at this
              rw [e, hq] at this
              cases this
            have X8 := hiddenN (X7.out.keep (hbut.block _ X7.out.lt hlm))
            have RP8 := hiddenN (RP.out.put RR.out HIN2.out)
            have LK8 : Hid (∀ u, Below W8.heap.size W8 u → (Instr.lookup 51 (.map (some m2)) (.agg #[.int .i64 (r : Int), .int .i64 x]) false).run Try.prog u = .ok (.int .i64 (rn1 : Int)) u) := fun u hu => by
              have := (BK8.out.mp2.keep (hu.block _ BK8.out.mp2.lt)).look keyedLink Try.underlying51 KL.out
              rw [if_pos (List.mem_append_right _ (List.mem_singleton.2 rfl)), idxM_snoc HIN2.out, HRNE.out, HR1.out] at this
              exact this
            obtain ⟨vv, hvv⟩ : ∃ q : Int, q = (rn1 : Int) := ⟨_, rfl⟩
            have HVV := hiddenN hvv
            rw [← hvv] at LK8
            have x0 := X8.out.cell (k := 0) rfl
            have x1 := X8.out.cell (k := 1) rfl
            have y1 := BK8.out.blk.cell (k := 1) rfl
            simp only [List.getElem_toArray, List.getElem_cons_zero, List.getElem_cons_succ] at x0 x1 y1
            clear hM8 hbut kp hb2 X7 BK7 FW7 hvv
            go_upto_region 8 with fail
            clear hrun
            refine wp_region_said 6 (fun i u v => match i with
                | 0 => v = .pointer (some ⟨p, 0, none⟩)
                | 1 => v = .pointer (some ⟨p, 0, none⟩)
                | 2 => v = .pointer (some ⟨p, 1, none⟩)
                | 3 => v = .map (some m2)
                | 4 => v = .agg #[.int .i64 (r : Int), .int .i64 x]
                | 5 => v = .int .i64 vv
                | _ => True) (by kernel_rfl) (by kernel_rfl) (by kernel_rfl) (by kernel_rfl) ?_ ?_ ?_
            · intro i w v w' h hb
              match i, h with
              | 0, h => exact h
              | 1, h => exact h
              | 2, h => exact h
              | 3, h => exact h
              | 4, h => exact h
              | 5, h => exact h
              | _ + 6, _ => trivial
            · intro i o ρ w' hi ho hb hc hf hfr hdep
              match i, hi with
              | 0, _ =>
                simp only [gTA, gCZ, gSI] at ho
                subst ho
                have ts : ρ (.tmp 0) = .pointer (some ⟨p, 0, none⟩) := hfr 0 (by kernel_rfl)
                simp [go_sem, ts]
                exact ⟨Below.refl _ _, rfl⟩
              | 1, _ =>
                simp only [gTA, gCZ, gCS, gSI] at ho
                subst ho
                have t0 : ρ (.tmp 36) = .pointer (some ⟨p, 0, none⟩) := hdep 0 36 (by kernel_rfl) (by kernel_rfl)
                simp [go_sem, t0]
                exact ⟨Below.refl _ _, rfl⟩
              | 2, _ =>
                simp only [gTA, gCZ, gCS, gSI] at ho
                subst ho
                have t0 : ρ (.tmp 37) = .pointer (some ⟨p, 0, none⟩) := hdep 1 37 (by kernel_rfl) (by kernel_rfl)
                simp [go_sem, t0]
                exact ⟨Below.refl _ _, rfl⟩
              | 3, _ =>
                simp only [gTA, gCZ, gCS, gSI] at ho
                subst ho
                have kc := cellN_later hb y1
                have t0 : ρ (.tmp 38) = .pointer (some ⟨p, 1, none⟩) := hdep 2 38 (by kernel_rfl) (by kernel_rfl)
                simp [go_sem, t0, kc]
                exact ⟨Below.refl _ _, rfl⟩
              | 4, _ =>
                simp only [gTA, gCZ, gCS, gSI] at ho
                subst ho
                have ts : ρ (.tmp 8) = .pointer (some ⟨lb, 0, none⟩) := hfr 8 (by kernel_rfl)
                have kx0 := cellN_later hb x0
                have kx1 := cellN_later hb x1
                simp [go_sem, ts, kx0, kx1]
                exact ⟨Below.refl _ _, rfl⟩
              | 5, _ =>
                simp only [gTA, gCZ, gCS, gSI] at ho
                subst ho
                have lk := LK8.out w' hb
                have t0 : ρ (.tmp 39) = .map (some m2) := hdep 3 39 (by kernel_rfl) (by kernel_rfl)
                have t1 : ρ (.tmp 40) = .agg #[.int .i64 (r : Int), .int .i64 x] := hdep 4 40 (by kernel_rfl) (by kernel_rfl)
                simp [go_sem, t0, t1, lk]
                exact ⟨Below.refl _ _, rfl⟩
            · intro V w6 q9 hS
              have e0 : V 0 = .pointer (some ⟨p, 0, none⟩) := hS 0 (by decide)
              have e1 : V 1 = .pointer (some ⟨p, 0, none⟩) := hS 1 (by decide)
              have e2 : V 2 = .pointer (some ⟨p, 1, none⟩) := hS 2 (by decide)
              have e3 : V 3 = .map (some m2) := hS 3 (by decide)
              have e4 : V 4 = .agg #[.int .i64 (r : Int), .int .i64 x] := hS 4 (by decide)
              have e5 : V 5 = .int .i64 vv := hS 5 (by decide)
              simp only [List.drop_succ_cons, List.drop_zero, List.take_succ_cons, List.take_zero, puts, e0, e1, e2, e3, e4, e5]
              simp only [Act.put, List.setIfInBounds_toArray, List.set_cons_zero, List.set_cons_succ]
              clear hS e0 e1 e2 e3 e4 e5 V
              have BK6 := hiddenN (BK8.out.keep (w' := w6) fun j hj => q9.block j (by rcases hj with q | q <;> exact q.2.lt))
              have FW6 := hiddenN (FW8.out.trans (Fr.of_below q9))
              clear q9 BK8 FW8 LK8 x0 x1 y1
              go_wp2
              go_roundg (L - (k + 1))
              case measure => omega
              case rel => exact ⟨k + 1, rn1, R' ++ [[(r : Int), x]], T ++ [bs.take k ++ [x]], by omega, rfl, by go_num, by rw [HVV.out], by rw [← List.append_assoc]; exact RP8.out, by rw [TK.out, ← List.append_assoc, ← HR1.out, ← HRNE.out, ← RP.out.len]; exact get_last _ _, BK6.out, FW6.out, by rw [List.length_append]; have := RL.out; simp; omega⟩
    · have ek : L = k := by omega
      subst ek
      have eL : bs.take L = bs := by rw [← HL.out]; exact List.take_length
      have hkk : ¬ (L : Int) < (L : Int) := by omega
      rw [eL] at RR
      go_wp2
      rw [← HRE.out]
      exact ⟨r, R', T, rfl, RP.out, RR.out, BK.out, FW.out, by rw [HL.out]; exact RL.out⟩
def LopQ (B : Nat) (F : Nat → Prop) (p : Nat) (V : List Lp) (q : Nat) (t n : Int) (l : List Lp) (w : World) (e : Ending) (w' : World) : Prop := ∃ (i : Nat) (T : List Lp), e = .returned (.int .i64 (i : Int)) ∧ (V ++ T)[i]? = some ⟨t, n, l⟩ ∧ BkM B F w' p (V ++ T) q ∧ Fr B w w'
theorem RpZ.inM {V : List Lp} (hV : V.length ≤ 1000000) : ∀ {ns : List Int} {l : List Lp}, RpZ V ns l → ∀ x ∈ ns, InM x
  | [], _, _, x, hx => by cases hx
  | y :: ns, _ :: l, ⟨⟨k, e, h⟩, h2⟩, x, hx => by
    rcases List.mem_cons.1 hx with rfl | hx
    · have := (List.getElem?_eq_some_iff.1 h).1
      unfold InM
      omega
    · exact RpZ.inM hV h2 x hx
  | _ :: _, [], h, _, _ => h.elim
set_option maxRecDepth 100000 in
set_option maxHeartbeats 16000000 in
theorem loopQ_any (B : Nat) (F : Nat → Prop) (p : Nat) (V : List Lp) (q q2 : Nat) (t n : Int) (l : List Lp) (bs : List Int) (a : Option Addr) (c : Nat) (w : World) (hB : BkM B F w p V q) (ht : InM t) (hn : InM n) (hl : RpZ V bs l) (hA : At w a bs) (hI : ∀ y, a = some y → F y.block ∧ IntB w y.block) (hq2 : q + bs.length + 1 ≤ q2) (hq : q2 ≤ 1000000) (hBw : B ≤ w.heap.size) :
    Calls Try.prog 19 #[.pointer (some ⟨p, 0, none⟩), .int .i64 t, .int .i64 n, .slice a bs.length c] w (LopQ B F p V q2 t n l w) := by
  obtain ⟨R, Ps, LK, Kb, S, m1, m2, kd, kc, hP, hW, hVq, hRq⟩ := hB
  have RA := hiddenN (rowQ_any B F p m1 m2 kd kc R Ps LK Kb S bs a c w hP.row hW hA (fun y hy => (hI y hy).2) (hl.inM (by omega)) (by omega))
  obtain ⟨RE, hRE⟩ : ∃ Q : Ending → World → Prop, LopQ B F p V q2 t n l w = Q := ⟨_, rfl⟩
  rw [hRE]
  have HRE := hiddenN hRE
  have HP := hiddenN hP
  have HW0 := hiddenN hW
  have HA := hiddenN hA
  have HI := hiddenN hI
  have HRL := hiddenN hl
  obtain ⟨L, hL⟩ : ∃ q, bs.length = q := ⟨_, rfl⟩
  have HL := hiddenN hL
  rw [hL] at RA hq2 ⊢
  have HQ2 := hiddenN hq2
  clear hRE hP hW hA hI hL hl hq2
  go_enter Try.func19, Try.ntmps19
  go_upto_region 2 with (go_at_call 22; (with_reducible refine RA.out.mono ?_); rintro e w1 ⟨r, R', T, rfl, h1, h2, h3, h4, h5⟩; have RP := hiddenN h1; have RR := hiddenN h2; have BK := hiddenN h3; have FW := hiddenN h4; have RL := hiddenN h5; clear h1 h2 h3 h4 h5)
  have hrb : r ≤ 1000000 := by have := RP.out.few RR.out; have := RL.out; have := HQ2.out; have := HL.out; omega
  have hrI : InM (r : Int) := ⟨by omega, by omega⟩
  have KL := hiddenN (keyLook ht hn hrI)
  have b1 := (Below.refl w1.heap.size w1).alloc (Nat.le_refl _) (.cells #[.int .i64 t, .int .i64 n, .int .i64 (r : Int)] 65)
  have X1 := hiddenN (blkA_new 65 w1 #[.int .i64 t, .int .i64 n, .int .i64 (r : Int)])
  have BK1 := hiddenN (BK.out.keep (w' := w1.alloc (.cells #[.int .i64 t, .int .i64 n, .int .i64 (r : Int)] 65)) fun j hj => b1.block j (by rcases hj with q | q <;> exact q.2.lt))
  have FW1 := hiddenN (FW.out.alloc (.cells #[.int .i64 t, .int .i64 n, .int .i64 (r : Int)] 65))
  have PP := hiddenN (HP.out.rows RP.out)
  obtain ⟨lb, hlb⟩ : ∃ q, w1.heap.size = q := ⟨_, rfl⟩
  rw [hlb] at X1 ⊢
  clear hlb b1 BK FW
  generalize w1.alloc (.cells #[.int .i64 t, .int .i64 n, .int .i64 (r : Int)] 65) = W1 at *
  have x0 := X1.out.cell (k := 0) rfl
  have x1 := X1.out.cell (k := 1) rfl
  have x2 := X1.out.cell (k := 2) rfl
  have y0 := BK1.out.blk.cell (k := 0) rfl
  simp only [List.getElem_toArray, List.getElem_cons_zero, List.getElem_cons_succ] at x0 x1 x2 y0
  have LK6 : Hid (∀ u, Below W1.heap.size W1 u → (Instr.lookup 50 (.map (some m1)) (.agg #[.int .i64 t, .int .i64 n, .int .i64 (r : Int)]) true).run Try.prog u = .ok (.tuple #[.int .i64 (if [t, n, (r : Int)] ∈ LK then ((idxM LK [t, n, (r : Int)] + 0 : Nat) : Int) else 0), .bool (decide ([t, n, (r : Int)] ∈ LK))]) u) := fun u hu => (BK1.out.mp1.keep (hu.block _ BK1.out.mp1.lt)).look_ok keyedLook Try.underlying50 KL.out
  obtain ⟨vv, hvv⟩ : ∃ q : Int, (if [t, n, (r : Int)] ∈ LK then ((idxM LK [t, n, (r : Int)] + 0 : Nat) : Int) else 0) = q := ⟨_, rfl⟩
  obtain ⟨bb, hbb⟩ : ∃ q : Bool, decide ([t, n, (r : Int)] ∈ LK) = q := ⟨_, rfl⟩
  rw [hvv, hbb] at LK6
  have HVV := hiddenN hvv
  have HBB := hiddenN hbb
  clear hvv hbb
  refine wp_region_said 10 (fun i u v => match i with
      | 0 => v = .pointer (some ⟨p, 0, none⟩)
      | 1 => v = .pointer (some ⟨p, 0, none⟩)
      | 2 => v = .pointer (some ⟨p, 0, none⟩)
      | 3 => v = .map (some m1)
      | 4 => v = .agg #[.int .i64 t, .int .i64 n, .int .i64 (r : Int)]
      | 5 => v = .tuple #[.int .i64 vv, .bool bb]
      | 6 => v = .tuple #[.int .i64 vv, .bool bb]
      | 7 => v = .int .i64 vv
      | 8 => v = .bool bb
      | 9 => v = .int .i64 vv
      | _ => True) (by kernel_rfl) (by kernel_rfl) (by kernel_rfl) (by kernel_rfl) ?_ ?_ ?_
  · intro i w v w' h hb
    match i, h with
    | 0, h => exact h
    | 1, h => exact h
    | 2, h => exact h
    | 3, h => exact h
    | 4, h => exact h
    | 5, h => exact h
    | 6, h => exact h
    | 7, h => exact h
    | 8, h => exact h
    | 9, h => exact h
    | _ + 10, _ => trivial
  · intro i o ρ w' hi ho hb hc hf hfr hdep
    match i, hi with
    | 0, _ =>
      simp only [gTA, gCZ, gSI] at ho
      subst ho
      have ts : ρ (.tmp 0) = .pointer (some ⟨p, 0, none⟩) := hfr 0 (by kernel_rfl)
      simp [go_sem, ts]
      exact ⟨Below.refl _ _, rfl⟩
    | 1, _ =>
      simp only [gTA, gCZ, gCS, gSI] at ho
      subst ho
      have t0 : ρ (.tmp 19) = .pointer (some ⟨p, 0, none⟩) := hdep 0 19 (by kernel_rfl) (by kernel_rfl)
      simp [go_sem, t0]
      exact ⟨Below.refl _ _, rfl⟩
    | 2, _ =>
      simp only [gTA, gCZ, gCS, gSI] at ho
      subst ho
      have t0 : ρ (.tmp 20) = .pointer (some ⟨p, 0, none⟩) := hdep 1 20 (by kernel_rfl) (by kernel_rfl)
      simp [go_sem, t0]
      exact ⟨Below.refl _ _, rfl⟩
    | 3, _ =>
      simp only [gTA, gCZ, gCS, gSI] at ho
      subst ho
      have kc := cellN_later hb y0
      have t0 : ρ (.tmp 21) = .pointer (some ⟨p, 0, none⟩) := hdep 2 21 (by kernel_rfl) (by kernel_rfl)
      simp [go_sem, t0, kc]
      exact ⟨Below.refl _ _, rfl⟩
    | 4, _ =>
      simp only [gTA, gCZ, gCS, gSI] at ho
      subst ho
      have ts : ρ (.tmp 9) = .pointer (some ⟨lb, 0, none⟩) := hfr 9 (by kernel_rfl)
      have kx0 := cellN_later hb x0
      have kx1 := cellN_later hb x1
      have kx2 := cellN_later hb x2
      simp [go_sem, ts, kx0, kx1, kx2]
      exact ⟨Below.refl _ _, rfl⟩
    | 5, _ =>
      simp only [gTA, gCZ, gCS, gSI] at ho
      subst ho
      have lk := LK6.out w' hb
      have t0 : ρ (.tmp 22) = .map (some m1) := hdep 3 22 (by kernel_rfl) (by kernel_rfl)
      have t1 : ρ (.tmp 23) = .agg #[.int .i64 t, .int .i64 n, .int .i64 (r : Int)] := hdep 4 23 (by kernel_rfl) (by kernel_rfl)
      simp [go_sem, t0, t1, lk]
      exact ⟨Below.refl _ _, rfl⟩
    | 6, _ =>
      simp only [gTA, gCZ, gCS, gSI] at ho
      subst ho
      have t0 : ρ (.tmp 24) = .tuple #[.int .i64 vv, .bool bb] := hdep 5 24 (by kernel_rfl) (by kernel_rfl)
      simp [go_sem, t0]
      exact ⟨Below.refl _ _, rfl⟩
    | 7, _ =>
      simp only [gTA, gCZ, gCS, gSI] at ho
      subst ho
      have t0 : ρ (.tmp 18) = .tuple #[.int .i64 vv, .bool bb] := hdep 6 18 (by kernel_rfl) (by kernel_rfl)
      simp [go_sem, t0]
      exact ⟨Below.refl _ _, rfl⟩
    | 8, _ =>
      simp only [gTA, gCZ, gCS, gSI] at ho
      subst ho
      have t0 : ρ (.tmp 18) = .tuple #[.int .i64 vv, .bool bb] := hdep 6 18 (by kernel_rfl) (by kernel_rfl)
      simp [go_sem, t0]
      exact ⟨Below.refl _ _, rfl⟩
    | 9, _ =>
      simp only [gTA, gCZ, gCS, gSI] at ho
      subst ho
      have t0 : ρ (.tmp 25) = .int .i64 vv := hdep 7 25 (by kernel_rfl) (by kernel_rfl)
      simp [go_sem, t0]
      exact ⟨Below.refl _ _, rfl⟩
  · intro V w9 q9 hS
    have e0 : V 0 = .pointer (some ⟨p, 0, none⟩) := hS 0 (by decide)
    have e1 : V 1 = .pointer (some ⟨p, 0, none⟩) := hS 1 (by decide)
    have e2 : V 2 = .pointer (some ⟨p, 0, none⟩) := hS 2 (by decide)
    have e3 : V 3 = .map (some m1) := hS 3 (by decide)
    have e4 : V 4 = .agg #[.int .i64 t, .int .i64 n, .int .i64 (r : Int)] := hS 4 (by decide)
    have e5 : V 5 = .tuple #[.int .i64 vv, .bool bb] := hS 5 (by decide)
    have e6 : V 6 = .tuple #[.int .i64 vv, .bool bb] := hS 6 (by decide)
    have e7 : V 7 = .int .i64 vv := hS 7 (by decide)
    have e8 : V 8 = .bool bb := hS 8 (by decide)
    have e9 : V 9 = .int .i64 vv := hS 9 (by decide)
    simp only [List.drop_succ_cons, List.drop_zero, List.take_succ_cons, List.take_zero, puts, e0, e1, e2, e3, e4, e5, e6, e7, e8, e9]
    simp only [Act.put, List.setIfInBounds_toArray, List.set_cons_zero, List.set_cons_succ]
    clear hS e0 e1 e2 e3 e4 e5 e6 e7 e8 e9 V
    have BK9 := hiddenN (BK1.out.keep (w' := w9) fun j hj => q9.block j (by rcases hj with q | q <;> exact q.2.lt))
    have FW9 := hiddenN (FW1.out.trans (Fr.of_below q9))
    have X9 := hiddenN (X1.out.below q9)
    clear q9 BK1 FW1 X1 LK6 x0 x1 x2 y0
    cases bb with
    | true =>
      have hin : [t, n, (r : Int)] ∈ LK := of_decide_eq_true HBB.out
      have TH := hiddenN (PP.out.there RR.out HRL.out hin)
      rw [if_pos hin, Nat.add_zero] at HVV
      clear hin
      go_wp2
      rw [← HRE.out]
      exact ⟨idxM LK [t, n, (r : Int)], [], by rw [HVV.out]; rfl, by rw [List.append_nil]; exact TH.out.1, by rw [List.append_nil]; exact ⟨R', Ps ++ T, LK, Kb, S, m1, m2, kd, kc, PP.out, BK9.out, by have := HQ2.out; omega, by have := RL.out; have := HQ2.out; have := HL.out; omega⟩, FW9.out⟩
    | false =>
      have hin : [t, n, (r : Int)] ∉ LK := of_decide_eq_false HBB.out
      have HIN := hiddenN hin
      obtain ⟨kn, hkn⟩ : ∃ q, S.length = q := ⟨_, rfl⟩
      have HKN := hiddenN hkn
      have HKL : Hid (LK.length = kn) := by show _ = _; rw [PP.out.len, ← BK9.out.len, hkn]
      have hknb : kn ≤ 1000000 := by have h := PP.out.vlen; have h2 := BK9.out.len; have h3 := HQ2.out; omega
      have y2 := BK9.out.blk.cell (k := 2) rfl
      have y0 := BK9.out.blk.cell (k := 0) rfl
      have x0 := X9.out.cell (k := 0) rfl
      have x1 := X9.out.cell (k := 1) rfl
      have x2 := X9.out.cell (k := 2) rfl
      simp only [List.getElem_toArray, List.getElem_cons_zero, List.getElem_cons_succ] at x0 x1 x2 y0 y2
      rw [hkn] at y2
      clear hin hkn
      go_upto_region 5 with fail
      refine wp_region_said 6 (fun i u v => match i with
          | 0 => v = .pointer (some ⟨p, 0, none⟩)
          | 1 => v = .pointer (some ⟨p, 0, none⟩)
          | 2 => v = .pointer (some ⟨p, 0, none⟩)
          | 3 => v = .map (some m1)
          | 4 => v = .agg #[.int .i64 t, .int .i64 n, .int .i64 (r : Int)]
          | 5 => v = .int .i64 (kn : Int)
          | _ => True) (by kernel_rfl) (by kernel_rfl) (by kernel_rfl) (by kernel_rfl) ?_ ?_ ?_
      · intro i w v w' h hb
        match i, h with
        | 0, h => exact h
        | 1, h => exact h
        | 2, h => exact h
        | 3, h => exact h
        | 4, h => exact h
        | 5, h => exact h
        | _ + 6, _ => trivial
      · intro i o ρ w' hi ho hb hc hf hfr hdep
        match i, hi with
        | 0, _ =>
          simp only [gTA, gCZ, gSI] at ho
          subst ho
          have ts : ρ (.tmp 0) = .pointer (some ⟨p, 0, none⟩) := hfr 0 (by kernel_rfl)
          simp [go_sem, ts]
          exact ⟨Below.refl _ _, rfl⟩
        | 1, _ =>
          simp only [gTA, gCZ, gCS, gSI] at ho
          subst ho
          have t0 : ρ (.tmp 34) = .pointer (some ⟨p, 0, none⟩) := hdep 0 34 (by kernel_rfl) (by kernel_rfl)
          simp [go_sem, t0]
          exact ⟨Below.refl _ _, rfl⟩
        | 2, _ =>
          simp only [gTA, gCZ, gCS, gSI] at ho
          subst ho
          have t0 : ρ (.tmp 35) = .pointer (some ⟨p, 0, none⟩) := hdep 1 35 (by kernel_rfl) (by kernel_rfl)
          simp [go_sem, t0]
          exact ⟨Below.refl _ _, rfl⟩
        | 3, _ =>
          simp only [gTA, gCZ, gCS, gSI] at ho
          subst ho
          have kc := cellN_later hb y0
          have t0 : ρ (.tmp 36) = .pointer (some ⟨p, 0, none⟩) := hdep 2 36 (by kernel_rfl) (by kernel_rfl)
          simp [go_sem, t0, kc]
          exact ⟨Below.refl _ _, rfl⟩
        | 4, _ =>
          simp only [gTA, gCZ, gCS, gSI] at ho
          subst ho
          have ts : ρ (.tmp 9) = .pointer (some ⟨lb, 0, none⟩) := hfr 9 (by kernel_rfl)
          have kx0 := cellN_later hb x0
          have kx1 := cellN_later hb x1
          have kx2 := cellN_later hb x2
          simp [go_sem, ts, kx0, kx1, kx2]
          exact ⟨Below.refl _ _, rfl⟩
        | 5, _ =>
          simp only [gTA, gCZ, gCS, gSI] at ho
          subst ho
          have ts : ρ (.tmp 10) = .int .i64 (kn : Int) := hfr 10 (by kernel_rfl)
          simp [go_sem, ts]
          exact ⟨Below.refl _ _, rfl⟩
      · intro V w5 q9 hS
        have e0 : V 0 = .pointer (some ⟨p, 0, none⟩) := hS 0 (by decide)
        have e1 : V 1 = .pointer (some ⟨p, 0, none⟩) := hS 1 (by decide)
        have e2 : V 2 = .pointer (some ⟨p, 0, none⟩) := hS 2 (by decide)
        have e3 : V 3 = .map (some m1) := hS 3 (by decide)
        have e4 : V 4 = .agg #[.int .i64 t, .int .i64 n, .int .i64 (r : Int)] := hS 4 (by decide)
        have e5 : V 5 = .int .i64 (kn : Int) := hS 5 (by decide)
        simp only [List.drop_succ_cons, List.drop_zero, List.take_succ_cons, List.take_zero, puts, e0, e1, e2, e3, e4, e5]
        simp only [Act.put, List.setIfInBounds_toArray, List.set_cons_zero, List.set_cons_succ]
        clear hS e0 e1 e2 e3 e4 e5 V
        have BK5 := hiddenN (BK9.out.keep (w' := w5) fun j hj => q9.block j (by rcases hj with q | q <;> exact q.2.lt))
        have FW5 := hiddenN (FW9.out.trans (Fr.of_below q9))
        clear q9 BK9 FW9 X9 x0 x1 x2 y0 y2
        obtain ⟨W6, hrun, hM6, hbut⟩ := BK5.out.mp1.put keyedLook Try.underlying50 KL.out HIN.out (by rw [HKL.out]; omega)
        rw [HKL.out, Nat.add_zero] at hrun
        have hrun : (Instr.mapUpdate 50 (.map (some m1)) (.agg #[.int .i64 t, .int .i64 n, .int .i64 (r : Int)]) (.int .i64 (kn : Int))).run Try.prog w5 = .ok () W6 := hrun
        have hb1 : Bky w5 m1 := .inr (.inr BK5.out.mp1.is)
        have kp : ∀ j, j < w5.heap.size → j ≠ m1 → W6.heap[j]? = w5.heap[j]? := fun j hj hne => hbut.block j hj hne
        have pm : p ≠ m1 := fun e => by
          obtain ⟨es, cl, hq⟩ := BK5.out.mp1.is
          have := BK5.out.blk
          unfold BlkA at this
          rw [e, hq] at this
          cases this
        have km : ∀ y, kd = some y → y.block ≠ m1 := fun y hy e => by
          have e0 := BK5.out.own.at0 y hy
          have h2 := BK5.out.own
          rw [hy, e0] at h2
          obtain ⟨cs, h3⟩ := h2.ty
          obtain ⟨es, cl, hq⟩ := BK5.out.mp1.is
          unfold BlkA at h3
          rw [e, hq] at h3
          cases h3
        have im : ∀ j, IntB w5 j → j ≠ m1 := fun j hj e => hj.off (e ▸ hb1)
        have FW6 := hiddenN (FW5.out.trans (Fr.of_but hbut BK5.out.lo1 hb1))
        have G6 : Hid (BlkA 54 p W6 #[.map (some m1), .map (some m2), .slice kd kn kc]) := by
          have h := BK5.out.blk.keep (kp _ BK5.out.blk.lt pm)
          rw [HKN.out] at h
          exact h
        have MA6 := hiddenN hM6
        have MB6 := hiddenN (BK5.out.mp2.keep (kp _ BK5.out.mp2.lt BK5.out.ne.symm))
        have O6 := hiddenN (BK5.out.own.keep (fun y hy => kp _ (BK5.out.own.lt y hy).2 (km y hy)))
        have BD6 : Hid (∀ (i : Nat) s, S[i]? = some s → ∃ bs, Kb[i]? = some (s.t, s.n, bs) ∧ s.k = bs.length ∧ At W6 s.a bs ∧ ∀ x, s.a = some x → F x.block ∧ IntB W6 x.block) := fun i s hs => by
          obtain ⟨bs', q1, q2, q3, q4⟩ := BK5.out.bod i s hs
          exact ⟨bs', q1, q2, q3.keepQ fun y hy => kp _ (q4 y hy).2.lt (im _ (q4 y hy).2), fun y hy => ⟨(q4 y hy).1, (q4 y hy).2.keep (kp _ (q4 y hy).2.lt (im _ (q4 y hy).2))⟩⟩
        have hst : Hid (B ≤ p ∧ B ≤ m1 ∧ B ≤ m2 ∧ m1 ≠ m2 ∧ S.length = Kb.length) := ⟨BK5.out.lop, BK5.out.lo1, BK5.out.lo2, BK5.out.ne, BK5.out.len⟩
        have AT6 : Hid (At W6 a bs ∧ ∀ y, a = some y → F y.block ∧ IntB W6 y.block) := by
          have hk : ∀ y, a = some y → W6.heap[y.block]? = w.heap[y.block]? := fun y hy => FW6.out.keep _ (HI.out y hy).2.lt (.inr (HI.out y hy).2.off)
          exact ⟨HA.out.keepQ hk, fun y hy => ⟨(HI.out y hy).1, (HI.out y hy).2.keep (hk y hy)⟩⟩
        have y2 := G6.out.cell (k := 2) rfl
        simp only [List.getElem_toArray, List.getElem_cons_zero, List.getElem_cons_succ] at y2
        have hBW : B ≤ W6.heap.size := Nat.le_trans hBw FW6.out.size
        have bA := (Below.refl W6.heap.size W6).alloc (Nat.le_refl _) (.cells #[.int .i64 t, .int .i64 n, .slice a L c] 56)
        have XA := hiddenN (blkA_new 56 W6 #[.int .i64 t, .int .i64 n, .slice a L c])
        have u0 := XA.out.cell (k := 0) rfl
        have u1 := XA.out.cell (k := 1) rfl
        have u2 := XA.out.cell (k := 2) rfl
        simp only [List.getElem_toArray, List.getElem_cons_zero, List.getElem_cons_succ] at u0 u1 u2
        have OA := hiddenN (O6.out.later bA)
        have hBA : B ≤ (W6.alloc (.cells #[.int .i64 t, .int .i64 n, .slice a L c] 56)).heap.size := Nat.le_trans hBW bA.size
        have BA := hiddenN bA
        clear hM6 hbut kp hb1 pm km im BK5 FW5 bA
        go_upto_region 6 with fail
        clear hrun
        go_upto_region 7 with (at_builtin; refine wpList_appK rfl _ _ rfl B kd kc S kn HKN.out rfl OA.out W6.heap.size ⟨t, n, a, L, c⟩ rfl u0 u1 u2 (by omega) hBA ?_; intro d2 c2 W7 hg2; have HG := hiddenN hg2; have G7 := hiddenN (G6.out.keep ((hg2.keep p (Nat.lt_of_lt_of_le G6.out.lt BA.out.size) (fun y hy e => by have h3 := OA.out.at0 y hy; have h4 := OA.out; rw [hy, h3] at h4; obtain ⟨cs, h5⟩ := h4.ty; have h6 := (G6.out.below BA.out); unfold BlkA at h5 h6; rw [e, h6] at h5; simp at h5)).trans (BA.out.block p G6.out.lt))); have y2 := G7.out.cell (k := 2) rfl; have f2 := G7.out.frozen 2; simp only [List.getElem_toArray, List.getElem_cons_zero, List.getElem_cons_succ] at y2; clear hg2)
        have hne : ∀ y, d2 = some y → y.block ≠ p := fun y hy e => by
          have h3 := HG.out.own.at0 y hy
          have h4 := HG.out.own
          rw [hy, h3] at h4
          obtain ⟨cs, h5⟩ := h4.ty
          have h6 := G7.out
          unfold BlkA at h5 h6
          rw [e, h6] at h5
          simp at h5
        have kty : ∀ y, kd = some y → Bky W6 y.block := fun y hy => by
          have h3 := O6.out.at0 y hy
          have h4 := O6.out
          rw [hy, h3] at h4
          exact .inr (.inl h4.ty)
        have pty : Bky W6 p := .inl ⟨_, G6.out⟩
        have kp8 : ∀ j, j < W6.heap.size → j ≠ p → (∀ y, kd = some y → y.block ≠ j) → (W7.setCell ⟨p, 2, none⟩ (.slice d2 (kn + 1) c2)).heap[j]? = W6.heap[j]? := fun j hj h1 h2 => by
          rw [Below.heap_setCell _ _ _ _ h1, HG.out.keep j (Nat.lt_of_lt_of_le hj BA.out.size) h2, BA.out.block j hj]
        have G8 : Hid (BlkA 54 p (W7.setCell ⟨p, 2, none⟩ (.slice d2 (kn + 1) c2)) #[.map (some m1), .map (some m2), .slice d2 (kn + 1) c2]) := G7.out.set 2 (.slice d2 (kn + 1) c2)
        have O8 := hiddenN (HG.out.own.keep (w' := W7.setCell ⟨p, 2, none⟩ (.slice d2 (kn + 1) c2)) fun y hy => Below.heap_setCell _ _ _ _ (hne y hy))
        have bky : ∀ j, Bky W6 j → (j = p → False) → True := fun _ _ _ => trivial
        have nm1 : m1 ≠ p := fun e => by
          obtain ⟨es, cl, hq⟩ := MA6.out.is
          have := G6.out
          unfold BlkA at this
          rw [← e, hq] at this
          cases this
        have nm2 : m2 ≠ p := fun e => by
          obtain ⟨es, cl, hq⟩ := MB6.out.is
          have := G6.out
          unfold BlkA at this
          rw [← e, hq] at this
          cases this
        have kmm : ∀ m es cl, W6.heap[m]? = some (.map es cl) → ∀ y, kd = some y → y.block ≠ m := fun m es cl hq y hy e => by
          have h3 := O6.out.at0 y hy
          have h4 := O6.out
          rw [hy, h3] at h4
          obtain ⟨cs, h5⟩ := h4.ty
          unfold BlkA at h5
          rw [e, hq] at h5
          cases h5
        have int8 : ∀ j, IntB W6 j → (W7.setCell ⟨p, 2, none⟩ (.slice d2 (kn + 1) c2)).heap[j]? = W6.heap[j]? := fun j hj => kp8 j hj.lt (fun e => hj.off (e ▸ pty)) fun y hy e => hj.off (e ▸ kty y hy)
        have F8 : Hid (Fr B w (W7.setCell ⟨p, 2, none⟩ (.slice d2 (kn + 1) c2))) := by
          refine FW6.out.trans ⟨?_, ?_, ?_, ?_, fun k hk hn2 => kp8 k hk ?_ ?_⟩
          · show W7.os = _; rw [HG.out.os]; rfl
          · show W7.tape = _; rw [HG.out.tape]; rfl
          · show W7.output = _; rw [HG.out.output]; rfl
          · simp only [World.size_setCell]; exact Nat.le_trans BA.out.size HG.out.size
          · rintro rfl
            rcases hn2 with q | q
            · have := hst.out.1; omega
            · exact q pty
          · rintro y hy rfl
            rcases hn2 with q | q
            · have := (O6.out.lt y hy).1; omega
            · exact q (kty y hy)
        have BW8 : Hid (BkW B F (W7.setCell ⟨p, 2, none⟩ (.slice d2 (kn + 1) c2)) p m1 m2 d2 c2 R' (LK ++ [[t, n, (r : Int)]]) (Kb ++ [(t, n, bs)]) (S ++ [⟨t, n, a, L, c⟩])) := by
          refine ⟨by rw [List.length_append, HKN.out]; exact G8.out, hst.out.1, hst.out.2.1, hst.out.2.2.1, hst.out.2.2.2.1, ?_, ?_, O8.out, by rw [List.length_append, List.length_append, hst.out.2.2.2.2]; rfl, fun i s hs => ?_⟩
          · obtain ⟨es, cl, hq⟩ := MA6.out.is
            exact MA6.out.keep (kp8 m1 MA6.out.lt nm1 (kmm m1 es cl hq))
          · obtain ⟨es, cl, hq⟩ := MB6.out.is
            exact MB6.out.keep (kp8 m2 MB6.out.lt nm2 (kmm m2 es cl hq))
          · rcases get_snoc hs with hs | ⟨rfl, rfl⟩
            · obtain ⟨bs', q1, q2, q3, q4⟩ := BD6.out i s hs
              exact ⟨bs', get_left q1, q2, q3.keepQ fun y hy => int8 _ (q4 y hy).2, fun y hy => ⟨(q4 y hy).1, (q4 y hy).2.keep (int8 _ (q4 y hy).2)⟩⟩
            · exact ⟨bs, by rw [hst.out.2.2.2.2]; exact get_last _ _, HL.out.symm, AT6.out.1.keepQ fun y hy => int8 _ (AT6.out.2 y hy).2, fun y hy => ⟨(AT6.out.2 y hy).1, (AT6.out.2 y hy).2.keep (int8 _ (AT6.out.2 y hy).2)⟩⟩
        have PP8 := hiddenN (PP.out.put RR.out HRL.out HIN.out)
        have hvk : Hid (V.length = kn) := by show _ = _; rw [PP.out.vlen, ← hst.out.2.2.2.2, HKN.out]
        clear hne kty pty kp8 bky nm1 nm2 kmm int8
        go_wp2
        rw [← HRE.out]
        exact ⟨kn, [⟨t, n, l⟩], rfl, by rw [← hvk.out]; exact get_last _ _, ⟨R', Ps ++ T, _, _, _, m1, m2, d2, c2, PP8.out, BW8.out, by rw [List.length_append]; have := HQ2.out; simp; omega, by have := RL.out; have := HQ2.out; have := HL.out; omega⟩, F8.out⟩
theorem markUpon_call {P : Program} {w : World} {T : World → Value → Prop} {r : Result Next} {f : Nat} {args : Array Value} (hr : r = .ok (.enter f args) w) (h : Calls P f args w (fun e w'' => ∃ v, e = .returned v ∧ T w'' v)) : markUpon P w T r := by
  rw [hr]; exact ⟨rfl, h⟩
theorem frozen_blk {w w' : World} {b o : Nat} (h : w'.heap[b]? = w.heap[b]?) {c : Bool} (hf : w.frozen? ⟨b, o, none⟩ = c) : w'.frozen? ⟨b, o, none⟩ = c := by
  rw [← hf]
  simp only [World.frozen?, h]
theorem made_zeroQ {w0 : World} {B g n : Nat} (h : w0.ownsRow B 3 1 (.slice (some ⟨g, 0, none⟩) n n) n (madeCells (Value.cells (.int .i64 0)) (n * 1)).toList) : CapR B w0 (some ⟨g, 0, none⟩) n (List.replicate n 0) := by
  unfold CapR
  have e : (madeCells (Value.cells (.int .i64 0)) (n * 1)).toList = (List.replicate n 0).map (Value.int .i64) := by
    show (madeCells #[.int .i64 0] (n * 1)).toList = _
    apply List.ext_getElem?
    intro k
    rw [Nat.mul_one]
    by_cases hk : k < n <;> simp [madeCells, hk, Nat.mod_one]
  rw [e] at h
  simpa using h
set_option maxRecDepth 100000 in
set_option maxHeartbeats 4000000 in
theorem newBook_any (F : Nat → Prop) (w : World) : Calls Try.prog 13 #[] w fun e w' => ∃ p, e = .returned (.pointer (some ⟨p, 0, none⟩)) ∧ BkM w.heap.size F w' p [] 0 ∧ Below w.heap.size w w' := by
  obtain ⟨RE, hRE⟩ : ∃ Q : Ending → World → Prop, (fun e w' => ∃ p, e = Ending.returned (.pointer (some ⟨p, 0, none⟩)) ∧ BkM w.heap.size F w' p [] 0 ∧ Below w.heap.size w w') = Q := ⟨_, rfl⟩
  rw [hRE]
  have HRE := hiddenN hRE
  clear hRE
  have A1 := hiddenN (mapI_new 65 0 w)
  have A2 := hiddenN (mapI_new 71 1 (w.alloc (.map #[] 0)))
  have b1 := (Below.refl w.heap.size w).alloc (Nat.le_refl _) (.map #[] 0)
  have b2 := (Below.refl (w.alloc (.map #[] 0)).heap.size (w.alloc (.map #[] 0))).alloc (Nat.le_refl _) (.map #[] 0)
  have b3 := (Below.refl ((w.alloc (.map #[] 0)).alloc (.map #[] 0)).heap.size ((w.alloc (.map #[] 0)).alloc (.map #[] 0))).alloc (Nat.le_refl _) (.cells #[.map (some w.heap.size), .map (some (w.alloc (.map #[] 0)).heap.size), .slice none 0 0] 54)
  have X := hiddenN (blkA_new 54 ((w.alloc (.map #[] 0)).alloc (.map #[] 0)) #[.map (some w.heap.size), .map (some (w.alloc (.map #[] 0)).heap.size), .slice none 0 0])
  have BB := hiddenN (b1.trans ((b2.mono b1.size).trans (b3.mono (Nat.le_trans b1.size b2.size))))
  have A1' := hiddenN ((A1.out.keep (b2.block _ A1.out.lt)).keep (b3.block _ (Nat.lt_of_lt_of_le A1.out.lt b2.size)))
  have A2' := hiddenN (A2.out.keep (b3.block _ A2.out.lt))
  have hl1 : Hid (w.heap.size < (w.alloc (.map #[] 0)).heap.size) := A1.out.lt
  have hl2 := hiddenN b2.size
  have es1 : (w.alloc (.map #[] 0)).heap.size = w.heap.size + 1 := World.size_alloc _ _
  have es2 : ((w.alloc (.map #[] 0)).alloc (.map #[] 0)).heap.size = w.heap.size + 1 + 1 := (World.size_alloc _ _).trans (by rw [es1])
  rw [es1, es2] at X
  rw [es1] at A1' A2' BB
  have hmm := @run_makeMap Try.prog
  clear A1 A2 b1 b2 b3
  go_enter Try.func13, Try.ntmps13
  go_wp2
  rw [← HRE.out]
  refine ⟨_, rfl, ⟨[], [[]], [], [], [], _, _, none, 0, bkP_nil, ⟨X.out, ?_, ?_, ?_, ?_, A1'.out, A2'.out, CapK.nil _ _, rfl, fun i s h => by simp at h⟩, Nat.le_refl _, Nat.le_refl _⟩, BB.out⟩
  · omega
  · exact Nat.le_refl _
  · omega
  · omega
/-! ### numbered -/
def InZ : List Lp → Prop
  | [] => True
  | ⟨t, n, b⟩ :: r => InM t ∧ InM n ∧ InZ b ∧ InZ r
theorem inZ_cons {x : Lp} {r : List Lp} : InZ (x :: r) ↔ InM x.times ∧ InM x.node ∧ InZ x.body ∧ InZ r := by obtain ⟨t, n, b⟩ := x; rw [InZ]
theorem inZ_mem : ∀ {l : List Lp} {x : Lp}, InZ l → x ∈ l → InM x.times ∧ InM x.node ∧ InZ x.body
  | [], _, _, h => by cases h
  | y :: l, x, h, hx => by
    rw [inZ_cons] at h
    rcases List.mem_cons.1 hx with rfl | hx
    · exact ⟨h.1, h.2.1, h.2.2.1⟩
    · exact inZ_mem h.2.2.2 hx
structure GhU where
  V : List Lp
  ns : List Int
  a : Nat
  i : Nat
/-- What holds in the region that numbers a loop. -/
structure CNu (B : Nat) (F : Nat → Prop) (p g k : Nat) (W1 : World) (V : List Lp) (x : Lp) (q1 q2 L1 : Nat) (y : GhU) (d : Nat → Bool) (u : World) : Prop where
  fst : d 10 = false → Below W1.heap.size W1 u ∧ d 11 = false ∧ d 13 = false
  snd : d 10 = true → d 11 = false → Fr B W1 u ∧ BkM B F u p (V ++ y.V) q1 ∧ RpZ (V ++ y.V) y.ns x.body ∧ CapR W1.heap.size u (some ⟨y.a, 0, none⟩) L1 y.ns ∧ d 13 = false
  trd : d 11 = true → d 13 = false → Fr B W1 u ∧ BkM B F u p (V ++ y.V) q2 ∧ (V ++ y.V)[y.i]? = some x
  fth : d 13 = true → ∃ u0 : World, (Fr B W1 u0 ∧ BkM B F u0 p (V ++ y.V) q2 ∧ (V ++ y.V)[y.i]? = some x) ∧ Below u0.heap.size (u0.setCell ⟨g, k, none⟩ (.int .i64 (y.i : Int))) u
section
variable {B : Nat} {F : Nat → Prop} {p g k : Nat} {W1 : World} {V : List Lp} {x : Lp} {q1 q2 L1 : Nat} {y : GhU} {d : Nat → Bool} {u u' : World}
theorem CNu.start : CNu B F p g k W1 V x q1 q2 L1 y (fun _ => false) W1 := ⟨fun _ => ⟨Below.refl _ _, rfl, rfl⟩, fun h => (by cases h), fun h => (by cases h), fun h => (by cases h)⟩
theorem CNu.later (h : CNu B F p g k W1 V x q1 q2 L1 y d u) (hb : Below u.heap.size u u') : CNu B F p g k W1 V x q1 q2 L1 y d u' :=
  ⟨fun e => ⟨(h.fst e).1.trans (hb.mono (h.fst e).1.size), (h.fst e).2⟩,
   fun e f => ⟨(h.snd e f).1.trans (Fr.of_below hb), (h.snd e f).2.1.later hb, (h.snd e f).2.2.1, (h.snd e f).2.2.2.1.later hb, (h.snd e f).2.2.2.2⟩,
   fun e f => ⟨(h.trd e f).1.trans (Fr.of_below hb), (h.trd e f).2.1.later hb, (h.trd e f).2.2⟩,
   fun e => by
    obtain ⟨u0, h1, h2⟩ := h.fth e
    exact ⟨u0, h1, h2.trans (hb.mono (by have := h2.size; rw [World.size_setCell] at this; exact this))⟩⟩
theorem CNu.keep (h : CNu B F p g k W1 V x q1 q2 L1 y d u) {j : Nat} (h1 : j < W1.heap.size) (h2 : ¬ Bky W1 j) (h3 : j ≠ g) : u.heap[j]? = W1.heap[j]? := by
  cases e : d 10 with
  | false => exact (h.fst e).1.block j h1
  | true =>
    cases f : d 13 with
    | false =>
      cases f2 : d 11 with
      | false => exact (h.snd e f2).1.keep j h1 (.inr h2)
      | true => exact (h.trd f2 f).1.keep j h1 (.inr h2)
    | true =>
      obtain ⟨u0, ⟨h4, -, -⟩, h5⟩ := h.fth f
      rw [h5.block j (Nat.lt_of_lt_of_le h1 h4.size), Below.heap_setCell _ _ _ _ h3]
      exact h4.keep j h1 (.inr h2)
theorem CNu.m10 (h : CNu B F p g k W1 V x q1 q2 L1 y d u) (h0 : d 10 = false) {a : Nat} {ns : List Int} {T : List Lp} (h1 : CapR u.heap.size u' (some ⟨a, 0, none⟩) L1 ns) (h2 : RpZ (V ++ T) ns x.body) (h3 : BkM B F u' p (V ++ T) q1) (h4 : Fr B u u') : CNu B F p g k W1 V x q1 q2 L1 ⟨T, ns, a, 0⟩ (doneAt d 10) u' := by
  obtain ⟨k1, k2, k3⟩ := h.fst h0
  refine ⟨fun e => (by rw [doneAt_eq] at e; cases e), fun _ _ => ⟨(Fr.of_below k1).trans h4, h3, h2, h1.mono k1.size, (doneAt_ne d (by decide)).trans k3⟩, fun e => ?_, fun e => ?_⟩
  · rw [doneAt_ne d (by decide), k2] at e; cases e
  · rw [doneAt_ne d (by decide), k3] at e; cases e
theorem CNu.m11 (h : CNu B F p g k W1 V x q1 q2 L1 y d u) (q : d 10 = true) (h0 : d 11 = false) {t n : Int} {bd : List Lp} (hx : x = ⟨t, n, bd⟩) {i : Nat} {T : List Lp} (h1 : (V ++ y.V ++ T)[i]? = some ⟨t, n, bd⟩) (h2 : BkM B F u' p (V ++ y.V ++ T) q2) (h3 : Fr B u u') : CNu B F p g k W1 V x q1 q2 L1 ⟨y.V ++ T, y.ns, y.a, i⟩ (doneAt d 11) u' := by
  obtain ⟨k1, k2, k3, k4, k5⟩ := h.snd q h0
  refine ⟨fun e => ?_, fun _ e => (by rw [doneAt_eq] at e; cases e), fun _ _ => ⟨k1.trans h3, by rw [← List.append_assoc]; exact h2, by rw [← List.append_assoc, hx]; exact h1⟩, fun e => ?_⟩
  · rw [doneAt_ne d (by decide), q] at e; cases e
  · rw [doneAt_ne d (by decide), k5] at e; cases e
theorem CNu.m13 (h : CNu B F p g k W1 V x q1 q2 L1 y d u) (q : d 11 = true) (h0 : d 13 = false) : CNu B F p g k W1 V x q1 q2 L1 y (doneAt d 13) (u.setCell ⟨g, k, none⟩ (.int .i64 (y.i : Int))) := by
  refine ⟨fun e => ?_, fun _ e => ?_, fun _ e => (by rw [doneAt_eq] at e; cases e), fun _ => ⟨u, h.trd q h0, ?_⟩⟩
  · rw [doneAt_ne d (by decide)] at e
    have := (h.fst e).2.1
    rw [q] at this; cases this
  · rw [doneAt_ne d (by decide), q] at e; cases e
  · have := Below.refl (u.setCell ⟨g, k, none⟩ (.int .i64 (y.i : Int))).heap.size (u.setCell ⟨g, k, none⟩ (.int .i64 (y.i : Int)))
    rw [World.size_setCell] at this
    exact this
end
def NumE (B : Nat) (F : Nat → Prop) (p : Nat) (V : List Lp) (l : List Lp) (q2 L : Nat) (w : World) (e : Ending) (w' : World) : Prop := ∃ (a : Nat) (ns : List Int) (T : List Lp), e = .returned (.slice (some ⟨a, 0, none⟩) L L) ∧ CapR w.heap.size w' (some ⟨a, 0, none⟩) L ns ∧ RpZ (V ++ T) ns l ∧ BkM B F w' p (V ++ T) q2 ∧ Fr B w w'
def NumOK (l : List Lp) : Prop := ∀ (B : Nat) (F : Nat → Prop) (p : Nat) (V : List Lp) (q q2 : Nat) (m : Bool) (a : Option Addr) (c : Nat) (w : World), BkM B F w p V q → Nst (· < B) m w a l → (∀ k, w.heap.size ≤ k → F k) → q + 2 * sizZ l ≤ q2 + l.length → q2 + l.length ≤ 1000000 → InZ l → B ≤ w.heap.size → Calls Try.prog 16 #[.pointer (some ⟨p, 0, none⟩), .slice a l.length c] w (NumE B F p V l q2 l.length w)
set_option maxRecDepth 100000 in
set_option maxHeartbeats 16000000 in
theorem numbered_any (l : List Lp) : NumOK l := by
  refine nest_ind (fun l ih => ?_) l
  intro B F p V q qq m a c w hK hN hF hq hqm hIn hBs
  obtain ⟨RE, hRE⟩ : ∃ Q : Ending → World → Prop, NumE B F p V l qq l.length w = Q := ⟨_, rfl⟩
  rw [hRE]
  have HRE := hiddenN hRE
  have IH := hiddenN ih
  have HIN := hiddenN hIn
  have HF := hiddenN hF
  have HQ := hiddenN hq
  have HQM := hiddenN hqm
  have HLS := hiddenN (len_siz l)
  have HBS := hiddenN hBs
  obtain ⟨L, hL⟩ : ∃ L, l.length = L := ⟨_, rfl⟩
  have hLm : L ≤ 1000000 := by omega
  have HL := hiddenN hL
  obtain ⟨i0, hi, hz0, hz1, hz2⟩ := info_parts Try.info3
  obtain ⟨w1, hr, ho, hg⟩ := run_make_full (P := Try.prog) w w.heap.size 22 3 i0 (.int .i64 0) 1 Try.underlying22 hi hz0 hz1 .i64 .i64 L (by rw [hz2]; omega) (by unfold maxLen; omega) (Nat.le_refl _)
  have b1 : Below w.heap.size w w1 := (Below.refl _ _).grown hg (Nat.le_refl _) (fun k hk => by cases hk)
  have C0 := hiddenN (made_zeroQ ho)
  have FR0 := hiddenN (Fr.of_below (B := B) b1)
  have N0 := hiddenN (NsK.start (hN.below (b1.mono hBs)))
  have K0 := hiddenN ((hK.mono (G := fun k => F k ∧ k ≠ w.heap.size) fun k h1 h2 => ⟨h1, by omega⟩).later b1)
  have hgl0 : w.heap.size < w1.heap.size := (C0.out.lt _ rfl).2
  rw [hL]
  clear hRE ih hN hK hF hL hq hqm hIn hi hz0 hz1 hz2 ho hg b1 hBs
  go_enter Try.func16, Try.ntmps16
  go_upto_region 3 with fail
  clear hr
  obtain ⟨g, hgE⟩ : ∃ q, w.heap.size = q := ⟨_, rfl⟩
  have HG := hiddenN hgE
  rw [hgE] at C0 hgl0 K0 ⊢
  clear hgE
  obtain ⟨F1, hF1⟩ : ∃ G : Nat → Prop, (fun k => F k ∧ k ≠ g) = G := ⟨_, rfl⟩
  rw [hF1] at K0
  have HF1 : Hid (∀ k, F1 k ↔ F k ∧ k ≠ g) := fun k => by rw [← hF1]
  clear hF1 hgl0
  go_loopg [13] L (fun gk iv wr => ∃ (pre rest : List Lp) (k : Nat) (ns : List Int) (T : List Lp) (qk : Nat), l = pre ++ rest ∧ pre.length = k ∧ gk = rest.length ∧ iv = .int .i64 (k : Int) ∧ Fr B w wr ∧ CapR g wr (some ⟨g, 0, none⟩) L (ns ++ List.replicate rest.length 0) ∧ RpZ (V ++ T) ns pre ∧ BkM B F1 wr p (V ++ T) qk ∧ qk + k = q + 2 * sizZ pre ∧ NsK (· < B) m wr a k rest)
  case atStart => exact ⟨[], l, 0, [], [], q, rfl, rfl, HL.out.symm, rfl, FR0.out, by rw [HL.out]; exact C0.out, trivial, by rw [List.append_nil]; exact K0.out, by rw [siz_nil], N0.out⟩
  case round =>
    clear C0 FR0 N0 K0
    obtain ⟨pre, rest, k, ns, T, qk, hl, hk, hgk, rfl, hfr, hC, hR, hK, hqk, hNs⟩ := hrel
    subst hgk
    have HFR := hiddenN hfr
    have HC := hiddenN hC
    have HR := hiddenN hR
    have HK := hiddenN hK
    have HQK := hiddenN hqk
    have NS := hiddenN hNs
    have HL2 := hiddenN hl
    have HPK := hiddenN hk
    have HNK : Hid (ns.length = k) := hR.len.trans hk
    have HLK : Hid (L = k + rest.length) := by show _ = _; rw [← HL.out, hl, List.length_append, hk]
    have hgw : g < wr.heap.size := (hC.lt _ rfl).2
    clear hl hk hfr hC hR hK hqk hNs
    cases rest with
    | nil =>
      have hki : ¬ ((k : Int) < (L : Int)) := by rw [HLK.out]; simp
      go_wp2
      rw [← HRE.out, HL.out]
      have e1 : pre = l := by rw [HL2.out, List.append_nil]
      have hC := HC.out
      rw [List.length_nil, List.replicate_zero, List.append_nil] at hC
      refine ⟨g, ns, T, rfl, by rw [HG.out]; exact hC, by rw [← e1]; exact HR.out, (HK.out.mono fun k h _ => ((HF1.out k).1 h).1).more ?_, HFR.out⟩
      have h1 := HQK.out
      have h2 := HQ.out
      have h3 := HPK.out
      rw [e1] at h1 h3
      omega
    | cons x r =>
      have hki : (k : Int) < (L : Int) := by rw [HLK.out]; simp; omega
      have hkL : k < L := by rw [HLK.out]; simp
      have hkm : (k : Int) ≤ 1000000 := by omega
      obtain ⟨b, o, a1, c1, rfl, q0, q1, q2, q3⟩ := NS.out.hd
      have hmem : x ∈ l := by rw [HL2.out]; exact List.mem_append_right _ (List.mem_cons_self ..)
      obtain ⟨bd, hbd⟩ : ∃ q, x.body = q := ⟨_, rfl⟩
      obtain ⟨L1, hL1⟩ : ∃ q, bd.length = q := ⟨_, rfl⟩
      obtain ⟨tx, htx⟩ : ∃ q, x.times = q := ⟨_, rfl⟩
      obtain ⟨nx, hnx⟩ : ∃ q, x.node = q := ⟨_, rfl⟩
      have HXE : Hid (x = ⟨tx, nx, bd⟩) := by show x = _; rw [← htx, ← hnx, ← hbd]; cases x; rfl
      obtain ⟨hi1, hi2, hi3⟩ := inZ_mem HIN.out hmem
      rw [htx] at q0 hi1
      rw [hnx] at q1 hi2
      rw [hbd, hL1] at q2
      rw [hbd] at q3 hi3
      have hsz : sizZ l = sizZ pre + (1 + sizZ bd + sizZ r) := by rw [HL2.out, siz_app, siz_cons, hbd]
      have hls := len_siz bd
      have hls2 := len_siz pre
      have hls3 := len_siz r
      obtain ⟨Q1, hQ1⟩ : ∃ Q1, qk + 2 * sizZ bd = Q1 + bd.length := ⟨qk + 2 * sizZ bd - bd.length, by omega⟩
      obtain ⟨Q2, hQ2⟩ : ∃ Q2, Q1 + bd.length + 1 = Q2 := ⟨_, rfl⟩
      have hQm : Q2 ≤ 1000000 := by have h1 := HQK.out; have h2 := HQ.out; have h3 := HQM.out; have h4 := HPK.out; have h5 := HL.out; have h6 := HLK.out; rw [List.length_cons] at h6; omega
      have hlsl := HLS.out
      have HQN : Hid (Q2 + (k + 1) = q + 2 * sizZ (pre ++ [x])) := by show _ = _; rw [siz_app, siz_cons, siz_nil, hbd]; have h1 := HQK.out; omega
      have b1 := (Below.refl wr.heap.size wr).alloc (Nat.le_refl _) (.cells #[.int .i64 tx, .int .i64 nx, .slice a1 L1 c1] 29)
      have X1 := hiddenN (blkA_new 29 wr #[.int .i64 tx, .int .i64 nx, .slice a1 L1 c1])
      have hBw : B ≤ wr.heap.size := Nat.le_trans HBS.out HFR.out.size
      have hFw : ∀ j, wr.heap.size ≤ j → F1 j := fun j hj => (HF1.out j).2 ⟨HF.out j (Nat.le_trans HFR.out.size hj), by omega⟩
      have CB : Hid (∀ u, Below (wr.alloc (.cells #[.int .i64 tx, .int .i64 nx, .slice a1 L1 c1] 29)).heap.size (wr.alloc (.cells #[.int .i64 tx, .int .i64 nx, .slice a1 L1 c1] 29)) u → Calls Try.prog 16 #[.pointer (some ⟨p, 0, none⟩), .slice a1 L1 c1] u (NumE B F1 p (V ++ T) bd Q1 L1 u)) := fun u hu => by
        have h2 : Below wr.heap.size wr u := b1.trans (hu.mono b1.size)
        have := IH.out x hmem B F1 p (V ++ T) qk Q1 m a1 c1 u (HK.out.later h2)
        rw [hbd, hL1] at this
        exact this (q3.below (h2.mono hBw)) (fun j hj => hFw j (Nat.le_trans h2.size hj)) (by omega) (by omega) hi3 (Nat.le_trans hBw h2.size)
      have LC : Hid (∀ u T1 ns2 a2, Fr B (wr.alloc (.cells #[.int .i64 tx, .int .i64 nx, .slice a1 L1 c1] 29)) u → BkM B F1 u p (V ++ T ++ T1) Q1 → RpZ (V ++ T ++ T1) ns2 x.body → CapR (wr.alloc (.cells #[.int .i64 tx, .int .i64 nx, .slice a1 L1 c1] 29)).heap.size u (some ⟨a2, 0, none⟩) L1 ns2 → Calls Try.prog 19 #[.pointer (some ⟨p, 0, none⟩), .int .i64 tx, .int .i64 nx, .slice (some ⟨a2, 0, none⟩) L1 L1] u (LopQ B F1 p (V ++ T ++ T1) Q2 tx nx bd u)) := fun u T1 ns2 a2 h1 h2 h3 h4 => by
        rw [hbd] at h3
        have hl : ns2.length = L1 := by rw [h3.len, hL1]
        have := loopQ_any B F1 p (V ++ T ++ T1) Q1 Q2 tx nx bd ns2 (some ⟨a2, 0, none⟩) L1 u h2 hi1 hi2 h3 h4.at (fun y hy => ⟨hFw _ (Nat.le_trans b1.size (h4.lt y hy).1), h4.int y hy⟩) (by omega) (by omega) (Nat.le_trans hBw (Nat.le_trans b1.size h1.size))
        rw [hl] at this
        exact this
      have FR1 := hiddenN (HFR.out.trans (Fr.of_below b1))
      have HC1 := hiddenN (HC.out.later b1)
      have NS1 := hiddenN (NS.out.tl.below (b1.mono hBw))
      have hgl : g < (wr.alloc (.cells #[.int .i64 tx, .int .i64 nx, .slice a1 L1 c1] 29)).heap.size := Nat.lt_of_lt_of_le hgw b1.size
      have hBW : B ≤ (wr.alloc (.cells #[.int .i64 tx, .int .i64 nx, .slice a1 L1 c1] 29)).heap.size := Nat.le_trans hBw b1.size
      have hgi : IntB (wr.alloc (.cells #[.int .i64 tx, .int .i64 nx, .slice a1 L1 c1] 29)) g := HC1.out.int _ rfl
      have hgn := hgi.off
      have zg := CapR.hd (os := ns) (p := 0) (R := List.replicate r.length 0) HNK.out HC1.out
      have fg := HC1.out.fz k
      have HGI := hiddenN hgi
      have hxg : wr.heap.size ≠ g := by omega
      have hxl : wr.heap.size < (wr.alloc (.cells #[.int .i64 tx, .int .i64 nx, .slice a1 L1 c1] 29)).heap.size := X1.out.lt
      have hxn : ¬ Bky (wr.alloc (.cells #[.int .i64 tx, .int .i64 nx, .slice a1 L1 c1] 29)) wr.heap.size := TyZ.off ⟨_, X1.out⟩
      have HBD := hiddenN hbd
      have y0 := X1.out.cell (k := 0) rfl
      have y1 := X1.out.cell (k := 1) rfl
      have y2 := X1.out.cell (k := 2) rfl
      simp only [List.getElem_toArray, List.getElem_cons_zero, List.getElem_cons_succ] at y0 y1 y2
      clear b1 q3 hmem hbd hL1 htx hnx X1 HC NS hFw hsz hls hls2 hls3 hQ1 hQ2 hQm hlsl hi1 hi2 hi3 HK hgi HFR
      go_upto_region 5 with fail
      obtain ⟨xb, hxb⟩ : ∃ q, wr.heap.size = q := ⟨_, rfl⟩
      rw [hxb] at y0 y1 y2 hxg hxl hxn ⊢
      clear hxb hgw hBw q0 q1 q2
      generalize wr.alloc (.cells #[.int .i64 tx, .int .i64 nx, .slice a1 L1 c1] 29) = W1 at *
      refine wp_region_gho [10, 11, 13] (fun y d i u z => match i with
          | 0 => z = .slice (some ⟨g, 0, none⟩) L L
          | 1 => z = .int .i64 (k : Int)
          | 2 => z = .pointer (some ⟨p, 0, none⟩)
          | 3 => z = .pointer (some ⟨xb, 0, none⟩)
          | 4 => z = .int .i64 tx
          | 5 => z = .pointer (some ⟨xb, 1, none⟩)
          | 6 => z = .int .i64 nx
          | 7 => z = .pointer (some ⟨p, 0, none⟩)
          | 8 => z = .pointer (some ⟨xb, 2, none⟩)
          | 9 => z = .slice a1 L1 c1
          | 10 => (d 10 = true ∧ z = .slice (some ⟨y.a, 0, none⟩) L1 L1)
          | 11 => (d 11 = true ∧ z = .int .i64 (y.i : Int))
          | 12 => z = .pointer (some ⟨g, k, none⟩)
          | 13 => True
          | _ => True) (fun y d u => CNu B F1 p g k W1 (V ++ T) x Q1 Q2 L1 y d u) (⟨[], [], 0, 0⟩) (by kernel_rfl) (by kernel_rfl) (by kernel_rfl) ?_ ?_ ?_ ?_ ?_ ?_ (by kernel_rfl)
      · intro y d i w v w' h hb
        match i, h with
        | 0, h => exact h
        | 1, h => exact h
        | 2, h => exact h
        | 3, h => exact h
        | 4, h => exact h
        | 5, h => exact h
        | 6, h => exact h
        | 7, h => exact h
        | 8, h => exact h
        | 9, h => exact h
        | 10, h => exact h
        | 11, h => exact h
        | 12, h => exact h
        | 13, h => trivial
        | _ + 14, _ => trivial
      · intro y d u u' h hb
        exact CNu.later h hb
      · exact CNu.start
      · intro y d i o ρ w' hm ho hf hg hC hcs hfs hfr hdep
        match i, hm, ho, hf, hg, hfr, hdep with
        | 0, _, ho, hf, hg, hfr, hdep =>
          simp only [gTA, gCZ, gSI] at ho
          subst ho
          refine ⟨fun _ => ?_, fun hw => absurd (show true = false from hw) (by decide)⟩
          have ts : ρ (.tmp 5) = .slice (some ⟨g, 0, none⟩) L L := hfr 5 (by kernel_rfl)
          simp [go_sem, ts]
          exact ⟨Below.refl _ _, rfl⟩
        | 1, _, ho, hf, hg, hfr, hdep =>
          simp only [gTA, gCZ, gCS, gSI] at ho
          subst ho
          refine ⟨fun _ => ?_, fun hw => absurd (show true = false from hw) (by decide)⟩
          have ts : ρ (.tmp 6) = .int .i64 (k : Int) := hfr 6 (by kernel_rfl)
          simp [go_sem, ts]
          exact ⟨Below.refl _ _, rfl⟩
        | 2, _, ho, hf, hg, hfr, hdep =>
          simp only [gTA, gCZ, gCS, gSI] at ho
          subst ho
          refine ⟨fun _ => ?_, fun hw => absurd (show true = false from hw) (by decide)⟩
          have ts : ρ (.tmp 0) = .pointer (some ⟨p, 0, none⟩) := hfr 0 (by kernel_rfl)
          simp [go_sem, ts]
          exact ⟨Below.refl _ _, rfl⟩
        | 3, _, ho, hf, hg, hfr, hdep =>
          simp only [gTA, gCZ, gCS, gSI] at ho
          subst ho
          refine ⟨fun _ => ?_, fun hw => absurd (show true = false from hw) (by decide)⟩
          have ts : ρ (.tmp 7) = .pointer (some ⟨xb, 0, none⟩) := hfr 7 (by kernel_rfl)
          simp [go_sem, ts]
          exact ⟨Below.refl _ _, rfl⟩
        | 4, _, ho, hf, hg, hfr, hdep =>
          simp only [gTA, gCZ, gCS, gSI] at ho
          subst ho
          refine ⟨fun _ => ?_, fun hw => absurd (show true = false from hw) (by decide)⟩
          have t0 : ρ (.tmp 21) = .pointer (some ⟨xb, 0, none⟩) := hdep 3 21 (by kernel_rfl) (by kernel_rfl)
          have kc := (cell_blk (hC.keep hxl hxn hxg)).trans y0
          simp [go_sem, t0, kc]
          exact ⟨Below.refl _ _, rfl⟩
        | 5, _, ho, hf, hg, hfr, hdep =>
          simp only [gTA, gCZ, gCS, gSI] at ho
          subst ho
          refine ⟨fun _ => ?_, fun hw => absurd (show true = false from hw) (by decide)⟩
          have ts : ρ (.tmp 7) = .pointer (some ⟨xb, 0, none⟩) := hfr 7 (by kernel_rfl)
          simp [go_sem, ts]
          exact ⟨Below.refl _ _, rfl⟩
        | 6, _, ho, hf, hg, hfr, hdep =>
          simp only [gTA, gCZ, gCS, gSI] at ho
          subst ho
          refine ⟨fun _ => ?_, fun hw => absurd (show true = false from hw) (by decide)⟩
          have t0 : ρ (.tmp 23) = .pointer (some ⟨xb, 1, none⟩) := hdep 5 23 (by kernel_rfl) (by kernel_rfl)
          have kc := (cell_blk (hC.keep hxl hxn hxg)).trans y1
          simp [go_sem, t0, kc]
          exact ⟨Below.refl _ _, rfl⟩
        | 7, _, ho, hf, hg, hfr, hdep =>
          simp only [gTA, gCZ, gCS, gSI] at ho
          subst ho
          refine ⟨fun _ => ?_, fun hw => absurd (show true = false from hw) (by decide)⟩
          have ts : ρ (.tmp 0) = .pointer (some ⟨p, 0, none⟩) := hfr 0 (by kernel_rfl)
          simp [go_sem, ts]
          exact ⟨Below.refl _ _, rfl⟩
        | 8, _, ho, hf, hg, hfr, hdep =>
          simp only [gTA, gCZ, gCS, gSI] at ho
          subst ho
          refine ⟨fun _ => ?_, fun hw => absurd (show true = false from hw) (by decide)⟩
          have ts : ρ (.tmp 7) = .pointer (some ⟨xb, 0, none⟩) := hfr 7 (by kernel_rfl)
          simp [go_sem, ts]
          exact ⟨Below.refl _ _, rfl⟩
        | 9, _, ho, hf, hg, hfr, hdep =>
          simp only [gTA, gCZ, gCS, gSI] at ho
          subst ho
          refine ⟨fun _ => ?_, fun hw => absurd (show true = false from hw) (by decide)⟩
          have t0 : ρ (.tmp 26) = .pointer (some ⟨xb, 2, none⟩) := hdep 8 26 (by kernel_rfl) (by kernel_rfl)
          have kc := (cell_blk (hC.keep hxl hxn hxg)).trans y2
          simp [go_sem, t0, kc]
          exact ⟨Below.refl _ _, rfl⟩
        | 10, hm, _, _, _, _, _ => exact absurd hm (by decide)
        | 11, hm, _, _, _, _, _ => exact absurd hm (by decide)
        | 12, _, ho, hf, hg, hfr, hdep =>
          simp only [gTA, gCZ, gCS, gSI] at ho
          subst ho
          refine ⟨fun _ => ?_, fun hw => absurd (show true = false from hw) (by decide)⟩
          have d0 : ρ (.tmp 18) = .slice (some ⟨g, 0, none⟩) L L := hdep 0 18 (by kernel_rfl) (by kernel_rfl)
          have d1 : ρ (.tmp 19) = .int .i64 (k : Int) := hdep 1 19 (by kernel_rfl) (by kernel_rfl)
          simp [go_sem, d0, d1, hkL]
          exact ⟨Below.refl _ _, rfl⟩
        | 13, hm, _, _, _, _, _ => exact absurd hm (by decide)
        | n + 14, _, ho, _, _, _, _ => simp at ho
      · intro y d i o ρ w' hm ho h0 hf hg hC hcs hfs hfr hdep
        match i, hm, ho, h0, hf, hg, hfr, hdep with
        | 0, hm, _, _, _, _, _, _ => exact absurd hm (by decide)
        | 1, hm, _, _, _, _, _, _ => exact absurd hm (by decide)
        | 2, hm, _, _, _, _, _, _ => exact absurd hm (by decide)
        | 3, hm, _, _, _, _, _, _ => exact absurd hm (by decide)
        | 4, hm, _, _, _, _, _, _ => exact absurd hm (by decide)
        | 5, hm, _, _, _, _, _, _ => exact absurd hm (by decide)
        | 6, hm, _, _, _, _, _, _ => exact absurd hm (by decide)
        | 7, hm, _, _, _, _, _, _ => exact absurd hm (by decide)
        | 8, hm, _, _, _, _, _, _ => exact absurd hm (by decide)
        | 9, hm, _, _, _, _, _, _ => exact absurd hm (by decide)
        | 10, _, ho, h0, hf, hg, hfr, hdep =>
          simp only [gTA, gCZ, gCS, gSI] at ho
          subst ho
          have t0 : ρ (.tmp 25) = .pointer (some ⟨p, 0, none⟩) := hdep 7 25 (by kernel_rfl) (by kernel_rfl)
          have t1 : ρ (.tmp 27) = .slice a1 L1 c1 := hdep 9 27 (by kernel_rfl) (by kernel_rfl)
          refine ⟨rfl, markUpon_call (f := 16) (args := #[.pointer (some ⟨p, 0, none⟩), .slice a1 L1 c1]) (by simp [go_sem, t0, t1, hfs]) ?_⟩
          refine (CB.out w' (hC.fst h0).1).mono fun e w2 ⟨a9, ns9, T9, he, h1, h2, h3, h4⟩ => ⟨_, he, ⟨T9, ns9, a9, 0⟩, hC.m10 h0 h1 (by rw [HBD.out]; exact h2) h3 h4, fun _ => ⟨doneAt_eq _ _, rfl⟩, ?_⟩
          intro j t hj hs
          match j, hs with
          | 0, hs => exact hs
          | 1, hs => exact hs
          | 2, hs => exact hs
          | 3, hs => exact hs
          | 4, hs => exact hs
          | 5, hs => exact hs
          | 6, hs => exact hs
          | 7, hs => exact hs
          | 8, hs => exact hs
          | 9, hs => exact hs
          | 10, hs => exact absurd hs.1 (by rw [h0]; decide)
          | 11, hs => exact absurd hs.1 (by rw [(hC.fst h0).2.1]; decide)
          | 12, hs => exact hs
          | 13, hs => exact hs
          | _ + 14, _ => trivial
        | 11, _, ho, h0, hf, hg, hfr, hdep =>
          simp only [gTA, gCZ, gCS, gSI] at ho
          subst ho
          have t0 : ρ (.tmp 20) = .pointer (some ⟨p, 0, none⟩) := hdep 2 20 (by kernel_rfl) (by kernel_rfl)
          have t1 : ρ (.tmp 22) = .int .i64 tx := hdep 4 22 (by kernel_rfl) (by kernel_rfl)
          have t2 : ρ (.tmp 24) = .int .i64 nx := hdep 6 24 (by kernel_rfl) (by kernel_rfl)
          obtain ⟨q1, t3⟩ : d 10 = true ∧ ρ (.tmp 28) = .slice (some ⟨y.a, 0, none⟩) L1 L1 := hdep 10 28 (by kernel_rfl) (by kernel_rfl)
          refine ⟨rfl, markUpon_call (f := 19) (args := #[.pointer (some ⟨p, 0, none⟩), .int .i64 tx, .int .i64 nx, .slice (some ⟨y.a, 0, none⟩) L1 L1]) (by simp [go_sem, t0, t1, t2, t3, hfs]) ?_⟩
          refine (LC.out w' y.V y.ns y.a (hC.snd q1 h0).1 (hC.snd q1 h0).2.1 (hC.snd q1 h0).2.2.1 (hC.snd q1 h0).2.2.2.1).mono fun e w2 ⟨i9, T9, he, h1, h2, h3⟩ => ⟨_, he, ⟨y.V ++ T9, y.ns, y.a, i9⟩, hC.m11 q1 h0 HXE.out h1 h2 h3, fun _ => ⟨doneAt_eq _ _, rfl⟩, ?_⟩
          intro j t hj hs
          match j, hs with
          | 0, hs => exact hs
          | 1, hs => exact hs
          | 2, hs => exact hs
          | 3, hs => exact hs
          | 4, hs => exact hs
          | 5, hs => exact hs
          | 6, hs => exact hs
          | 7, hs => exact hs
          | 8, hs => exact hs
          | 9, hs => exact hs
          | 10, hs => exact ⟨(doneAt_ne d (by decide)).trans hs.1, hs.2⟩
          | 11, hs => exact absurd hs.1 (by rw [h0]; decide)
          | 12, hs => exact hs
          | 13, hs => exact hs
          | _ + 14, _ => trivial
        | 12, hm, _, _, _, _, _, _ => exact absurd hm (by decide)
        | 13, _, ho, h0, hf, hg, hfr, hdep =>
          simp only [gTA, gCZ, gCS, gSI] at ho
          subst ho
          have t0 : ρ (.tmp 30) = .pointer (some ⟨g, k, none⟩) := hdep 12 30 (by kernel_rfl) (by kernel_rfl)
          obtain ⟨q1, t1⟩ : d 11 = true ∧ ρ (.tmp 29) = .int .i64 (y.i : Int) := hdep 11 29 (by kernel_rfl) (by kernel_rfl)
          have z0 := (cell_blk ((hC.trd q1 h0).1.keep _ hgl (.inr hgn))).trans zg
          have f0 := frozen_blk (o := k) ((hC.trd q1 h0).1.keep _ hgl (.inr hgn)) fg
          refine ⟨rfl, markUpon_skip (w' := w'.setCell ⟨g, k, none⟩ (.int .i64 (y.i : Int))) (by simp [go_sem, t0, t1, z0, f0]) ?_⟩
          refine ⟨y, hC.m13 q1 h0, fun _ => trivial, ?_⟩
          intro j t hj hs
          match j, hs with
          | 0, hs => exact hs
          | 1, hs => exact hs
          | 2, hs => exact hs
          | 3, hs => exact hs
          | 4, hs => exact hs
          | 5, hs => exact hs
          | 6, hs => exact hs
          | 7, hs => exact hs
          | 8, hs => exact hs
          | 9, hs => exact hs
          | 10, hs => exact ⟨(doneAt_ne d (by decide)).trans hs.1, hs.2⟩
          | 11, hs => exact ⟨(doneAt_ne d (by decide)).trans hs.1, hs.2⟩
          | 12, hs => exact hs
          | 13, hs => exact hs
          | _ + 14, _ => trivial
        | n + 14, _, ho, _, _, _, _, _ => simp at ho
      · intro y9 VV w9 hC9 hS
        simp only [puts, put_none]
        simp only [Act.put, List.setIfInBounds_toArray, List.set_cons_zero, List.set_cons_succ]
        clear hS 
        obtain ⟨u0, ⟨f1, f2, f3⟩, f4⟩ := hC9.fth rfl
        have f4' : Below (u0.setCell ⟨g, k, none⟩ (.int .i64 (y9.i : Int))).heap.size (u0.setCell ⟨g, k, none⟩ (.int .i64 (y9.i : Int))) w9 := by rw [World.size_setCell]; exact f4
        have kg : u0.heap[g]? = W1.heap[g]? := f1.keep g hgl (.inr hgn)
        have ko : ∀ j, j < u0.heap.size → j ≠ g → w9.heap[j]? = u0.heap[j]? := fun j hj hne => by rw [f4.block j hj, Below.heap_setCell _ _ _ _ hne]
        have HC9 : Hid (CapR g w9 (some ⟨g, 0, none⟩) L ((ns ++ [(y9.i : Int)]) ++ List.replicate r.length 0)) := by
          show CapR _ _ _ _ _
          rw [List.append_assoc, List.singleton_append]
          have h := HC1.out.keep (w' := u0) fun z hz => by cases hz; exact kg
          exact (CapR.set (os := ns) (p := 0) (R := List.replicate r.length 0) (y9.i : Int) HNK.out h).later f4'
        have FR9 : Hid (Fr B w w9) := by
          have h := FR1.out.trans f1
          refine ⟨f4.os.trans h.os, f4.tape.trans h.tape, f4.output.trans h.output, Nat.le_trans h.size (by have := f4.size; rw [World.size_setCell] at this; exact this), fun j hj hn => ?_⟩
          rw [ko j (Nat.lt_of_lt_of_le hj h.size) (by rw [HG.out] at hj; omega)]
          exact h.keep j hj hn
        have HR9 : Hid (RpZ (V ++ (T ++ y9.V)) (ns ++ [(y9.i : Int)]) (pre ++ [x])) := by
          show RpZ _ _ _
          rw [← List.append_assoc]
          exact (HR.out.more y9.V).append ⟨⟨y9.i, rfl, f3⟩, trivial⟩
        have HK9 : Hid (BkM B F1 w9 p (V ++ (T ++ y9.V)) Q2) := by
          show BkM _ _ _ _ _ _
          rw [← List.append_assoc]
          refine f2.keep fun j hj => ko j ?_ ?_
          · rcases hj with h | h
            · exact h.2.lt
            · exact h.2.lt
          · rcases hj with h | h
            · rintro rfl; exact (HGI.out.keep kg).off h.2
            · exact ((HF1.out j).1 h.1).2
        have NS9 : Hid (NsK (· < B) m w9 (some ⟨b, o, none⟩) (k + 1) r) := NS1.out.keep fun j hj => by
          have hjB : j < B := hj
          have hB1 : B ≤ u0.heap.size := Nat.le_trans hBW f1.size
          have hBg : B ≤ g := by rw [← HG.out]; exact HBS.out
          rw [ko j (by omega) (by omega)]
          exact f1.keep j (by omega) (.inl hjB)
        clear hC9 f1 f2 f3 f4 f4' kg ko
        go_wp2
        go_roundg r.length
        case measure => simp
        case rel => exact ⟨pre ++ [x], r, k + 1, ns ++ [(y9.i : Int)], T ++ y9.V, Q2, by rw [HL2.out]; simp, by rw [List.length_append, HPK.out]; rfl, rfl, by go_num, FR9.out, HC9.out, HR9.out, HK9.out, HQN.out, NS9.out⟩
end Go.Proofs.Ytmeogapffdgjlab
namespace Go.Proofs.Ytmeogapffdgjlab
theorem siz_rep : ∀ (m : Nat) (l : List Lp), sizZ (List.replicate m l).flatten = m * sizZ l
  | 0, l => by simp [siz_nil]
  | m + 1, l => by
    rw [List.replicate_succ', List.flatten_append, siz_app, siz_rep m l, Nat.succ_mul]
    simp
theorem take_drop_siz {w m : Nat} (hw : 1 ≤ w) {l : List Lp} (hm : m ≤ grpZ w l) (hl : m * w ≤ l.length) : sizZ l = m * sizZ (l.take w) + sizZ (l.drop (m * w)) := by
  conv => lhs; rw [← List.take_append_drop (m * w) l, siz_app, take_rep hw hm hl, siz_rep]
theorem pas_siz {w : Nat} (hw : 1 ≤ w) (l : List Lp) : sizZ (pasZ w l) ≤ sizZ l := by
  refine pas_ind hw (P := fun l m => sizZ m ≤ sizZ l) (Nat.le_refl _) (fun x l _ h => ?_) (fun x l m hm hg hl h => ?_) l
  · rw [siz_cons, siz_cons]; omega
  · have e := take_drop_siz hw (l := x :: l) (m := m) (by omega) hl
    rw [siz_cons]
    have h3 : 2 * sizZ ((x :: l).take w) ≤ m * sizZ ((x :: l).take w) := Nat.mul_le_mul_right _ hm
    have h4 : 1 ≤ sizZ ((x :: l).take w) := by
      have h5 := len_siz ((x :: l).take w)
      have h6 := take_ne (x := x) (l := l) hw
      cases h7 : (x :: l).take w with
      | nil => rw [h7] at h6; cases h6
      | cons y r => rw [h7, List.length_cons] at h5; omega
    have e2 : sizZ (x :: l) = sizZ (x :: l) := rfl
    show 1 + sizZ ((x :: l).take w) + sizZ (pasZ w ((x :: l).drop (m * w))) ≤ sizZ (x :: l)
    omega
theorem siz_lvs : ∀ (l : List Lp), sizZ l ≤ lvsZ l * (depZ l + 1) := by
  refine nest_one ?_ ?_
  · rw [siz_nil]; exact Nat.zero_le _
  · intro x r hb hr
    rw [siz_cons, lvs_cons, dep_cons]
    obtain ⟨M, hM⟩ : ∃ M, max (if x.body.isEmpty then 0 else depZ x.body + 1) (depZ r) = M := ⟨_, rfl⟩
    rw [hM]
    have h1 : lvsZ r * (depZ r + 1) ≤ lvsZ r * (M + 1) := Nat.mul_le_mul_left _ (by omega)
    rw [Nat.add_mul]
    by_cases he : x.body = []
    · have : lv1 x = 1 := by unfold lv1; rw [he]; rfl
      rw [this, he, siz_nil]
      omega
    · have hne : x.body.isEmpty = false := by cases h : x.body with
        | nil => exact absurd h he
        | cons y b => rfl
      have e : lv1 x = lvsZ x.body := by unfold lv1; rw [hne]; rfl
      rw [e]
      rw [hne] at hM
      have hM2 : depZ x.body + 1 ≤ M := by rw [← hM]; exact Nat.le_max_left _ _
      have h2 : lvsZ x.body * (depZ x.body + 1 + 1) ≤ lvsZ x.body * (M + 1) := Nat.mul_le_mul_left _ (by omega)
      have h3 := lvs_pos he
      rw [Nat.mul_succ] at h2
      omega
/-- A sound nest is small. -/
theorem chk_siz {l : List Lp} (h : chkZ l = 0) : sizZ l ≤ 34816 := by
  obtain ⟨h1, h2⟩ := chk_zero h
  have h3 := err_lvs l 0 0 (by omega) h1
  have h4 := err_deep l 0 0 h1
  rw [dps_zero] at h4
  have h5 := siz_lvs l
  have h6 : lvsZ l * (depZ l + 1) ≤ 2048 * 17 := Nat.mul_le_mul (by omega) (by omega)
  omega
theorem pos_in : ∀ (l : List Lp), posZ l → totZ l ≤ 2048 → InZ l := by
  refine nest_one ?_ ?_
  · intro _ _; rw [InZ]; trivial
  · intro x r hb hr hp ht
    rw [pos_cons] at hp
    obtain ⟨p1, p2, p3, p4⟩ := hp
    rw [tot_cons] at ht
    have h1 : x.times.toNat ≤ to1 x := by
      unfold to1
      refine Nat.le_mul_of_pos_right _ ?_
      by_cases he : x.body = []
      · rw [he]; decide
      · have hne : x.body.isEmpty = false := by cases h : x.body with
          | nil => exact absurd h he
          | cons y b => rfl
        rw [hne]
        exact pos_tot p3 he
    have h2 : totZ x.body ≤ 2048 := by
      by_cases he : x.body = []
      · rw [he, tot_nil]; omega
      · have hne : x.body.isEmpty = false := by cases h : x.body with
          | nil => exact absurd h he
          | cons y b => rfl
        have : totZ x.body ≤ to1 x := by
          unfold to1
          rw [hne]
          exact Nat.le_mul_of_pos_left _ (by omega)
        omega
    exact inZ_cons.2 ⟨⟨by omega, by omega⟩, ⟨by omega, by omega⟩, hb p3 h2, hr p4 (by omega)⟩
theorem chk_in {l : List Lp} (h : chkZ l = 0) : InZ l := by
  obtain ⟨h1, h2⟩ := chk_zero h
  exact pos_in l (err_pos l 0 0 h1) h2
/-- What Fold answers: its error, its row. -/
def fldE (t : Int) (l : List Lp) : Nat := if chkZ l ≠ 0 then chkZ l else if t < 1 ∨ 16 < t then 1 else chkZ (pasZ t.toNat l)
def fldV (t : Int) (l : List Lp) : List Lp := if fldE t l = 0 then pasZ t.toNat l else []
end Go.Proofs.Ytmeogapffdgjlab
namespace Go.Proofs.Ytmeogapffdgjlab
open Go.ChangeShapes Go.WideShapes Go.ChangeAt Go.RowKit
theorem drewQ (w : World) (q : Nat) : Below w.heap.size w (w.drewN q) := ⟨rfl, rfl, rfl, Nat.le_refl _, fun _ _ => rfl⟩
theorem At.later {w w' : World} {a : Option Addr} {zs : List Int} {B : Nat} (h : At w a zs) (hk : ∀ x, a = some x → x.block < B) (hb : Below B w w') : At w' a zs := h.keepQ fun x hx => hb.block _ (hk x hx)
theorem At.lie {w : World} {a : Option Addr} {zs : List Int} (h : At w a zs) : zs = [] ∨ ∃ b o, a = some ⟨b, o, none⟩ ∧ ∀ k, k < zs.length → w.cell? ⟨b, o + k, none⟩ = some (.int .i64 (nth zs k)) := h
theorem cnt_drop {ns : List Int} {j w : Nat} {x y : Int} (h1 : ns[j]? = some x) (h2 : ns[w + j]? = some y) : cntG eqI (ns.drop j) (ns.drop (w + j)) = if x = y then cntG eqI (ns.drop (j + 1)) (ns.drop (w + (j + 1))) + 1 else 0 := by
  obtain ⟨a1, a2⟩ := List.getElem?_eq_some_iff.1 h1
  obtain ⟨b1, b2⟩ := List.getElem?_eq_some_iff.1 h2
  rw [List.drop_eq_getElem_cons a1, List.drop_eq_getElem_cons b1, a2, b2, cntG]
  unfold eqI
  simp only [decide_eq_true_eq]
  rfl
theorem cnt_end {ns : List Int} {j w : Nat} (h : ns.length ≤ w + j) : cntG eqI (ns.drop j) (ns.drop (w + j)) = 0 := by
  have := cntG_le (eq := eqI) (ns.drop j) (ns.drop (w + j))
  rw [List.length_drop] at this
  omega
theorem nth_some {zs : List Int} {k : Nat} (h : k < zs.length) : zs[k]? = some (nth zs k) := by
  unfold nth
  rw [List.getD_eq_getElem?_getD, List.getElem?_eq_getElem h]
  rfl
set_option maxRecDepth 100000 in
set_option maxHeartbeats 4000000 in
theorem groups_any (wd : Nat) (ns : List Int) (a : Option Addr) (c : Nat) (w : World) (hA : At w a ns) (ha : ∀ x, a = some x → x.block < w.heap.size) (h1 : 1 ≤ wd) (h2 : wd ≤ 16) (hl : ns.length ≤ 1000000) :
    Calls Try.prog 20 #[.int .i64 (wd : Int), .slice a ns.length c] w fun e w' => e = .returned (.int .i64 ((alkN wd ns / wd : Nat) : Int)) ∧ Below w.heap.size w w' := by
  obtain ⟨RE, hRE⟩ : ∃ Q : Ending → World → Prop, (fun e w' => e = Ending.returned (.int .i64 ((alkN wd ns / wd : Nat) : Int)) ∧ Below w.heap.size w w') = Q := ⟨_, rfl⟩
  rw [hRE]
  have HRE := hiddenN hRE
  have HA := hiddenN hA
  have HLT := hiddenN ha
  obtain ⟨L, hL⟩ : ∃ L, ns.length = L := ⟨_, rfl⟩
  have HL := hiddenN hL
  rw [hL] at hl ⊢
  clear hRE hA ha hL
  go_enter Try.func20, Try.ntmps20
  go_upto_region 2 with fail
  go_loopg [5] (L + 1) (fun gk iv wr => ∃ (j s : Nat), s = wd + j ∧ iv = .int .i64 (s : Int) ∧ s ≤ L + wd ∧ gk = L + wd + 1 - s ∧ j + cntG eqI (ns.drop j) (ns.drop (wd + j)) = cntG eqI ns (ns.drop wd) ∧ Below w.heap.size w wr)
  case atStart => exact ⟨0, wd, rfl, rfl, by omega, by omega, by simp, Below.refl _ _⟩
  case round =>
    obtain ⟨j, s, hs, rfl, hsL, hgk, hcnt, hb⟩ := hrel
    have HB := hiddenN hb
    have HC := hiddenN hcnt
    have HS := hiddenN hs
    have AT := hiddenN (HA.out.later HLT.out hb)
    have HGK := hiddenN hgk
    clear hb hcnt hgk
    by_cases hlt : s < L
    · have hki : (s : Int) < (L : Int) := by omega
      have hjl : j < L := by omega
      have hji : (j : Int) < (L : Int) := by omega
      rcases AT.out.lie with h0 | ⟨b, o, rfl, hc⟩
      · have := HL.out; rw [h0] at this; simp at this; omega
      have c1 := hc s (by rw [HL.out]; exact hlt)
      have c2 := hc j (by rw [HL.out]; exact hjl)
      have N1 := hiddenN (nth_some (zs := ns) (k := s) (by rw [HL.out]; exact hlt))
      have N2 := hiddenN (nth_some (zs := ns) (k := j) (by rw [HL.out]; exact hjl))
      have hv : IntKind.i64.wrap ((s : Int) - (wd : Int)) = (j : Int) := by rw [IntKind.wrap_i64]; omega
      generalize nth ns s = y at *
      generalize nth ns j = x at *
      have CD := hiddenN (cnt_drop (w := wd) N2.out (by rw [← HS.out]; exact N1.out))
      clear hc
      by_cases hxy : y = x
      · subst hxy
        have HCC := CD.out
        rw [if_pos rfl] at HCC
        have HC2 : Hid ((j + 1) + cntG eqI (ns.drop (j + 1)) (ns.drop (wd + (j + 1))) = cntG eqI ns (ns.drop wd)) := by show _ = _; have := HC.out; omega
        have hyy : (y == y) = true := by simp
        clear HCC CD hs
        go_wp2
        go_quiet (fail)
        go_wp2
        go_roundg (L + wd + 1 - (s + 1))
        case measure => have := HGK.out; omega
        case rel => exact ⟨j + 1, s + 1, by have := HS.out; omega, by go_num, by omega, rfl, HC2.out, HB.out.trans ((drewQ _ _).mono HB.out.size)⟩
      · have HCC := CD.out
        rw [if_neg (fun e => hxy e.symm)] at HCC
        have hyy : (y == x) = false := by simpa using hxy
        clear CD
        have hal : alkN wd ns = s := by unfold alkN; have := HC.out; have := HS.out; omega
        obtain ⟨G, hG⟩ : ∃ G, s / wd = G := ⟨_, rfl⟩
        have e2 : G ≤ s := by rw [← hG]; exact Nat.div_le_self _ _
        have hd0 : (s : Int).tdiv (wd : Int) = (G : Int) := by rw [← hG]; rfl
        have hd : IntKind.i64.wrap (G : Int) = (G : Int) := by rw [IntKind.wrap_i64]; omega
        have HGE := hiddenN hG
        clear hG
        have hw0 : (wd : Int) ≠ 0 := by omega
        have HAL := hiddenN hal
        clear hal hs
        go_wp2
        go_quiet (fail)
        go_wp2
        rw [← HRE.out, HAL.out, HGE.out]
        exact ⟨rfl, HB.out.trans ((drewQ _ _).mono HB.out.size)⟩
    · have hki : ¬ ((s : Int) < (L : Int)) := by omega
      have HCC := cnt_end (ns := ns) (j := j) (w := wd) (by rw [HL.out]; omega)
      have hal : alkN wd ns = s := by unfold alkN; have := HC.out; have := HS.out; omega
      obtain ⟨G, hG⟩ : ∃ G, s / wd = G := ⟨_, rfl⟩
      have e2 : G ≤ s := by rw [← hG]; exact Nat.div_le_self _ _
      have hd0 : (s : Int).tdiv (wd : Int) = (G : Int) := by rw [← hG]; rfl
      have hd : IntKind.i64.wrap (G : Int) = (G : Int) := by rw [IntKind.wrap_i64]; omega
      have HGE := hiddenN hG
      clear hG
      have hw0 : (wd : Int) ≠ 0 := by omega
      have HAL := hiddenN hal
      clear hal hs
      go_wp2
      go_quiet (fail)
      go_wp2
      rw [← HRE.out, HAL.out, HGE.out]
      exact ⟨rfl, HB.out.trans ((drewQ _ _).mono HB.out.size)⟩
end Go.Proofs.Ytmeogapffdgjlab

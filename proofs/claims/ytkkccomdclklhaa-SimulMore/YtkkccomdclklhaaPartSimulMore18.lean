/- Texts of one chain, laid one behind the other. -/
import Derived.Test.YtkkccomdclklhaaPartSimulMore17
import Derived.Test.YtkkccomdclklhaaPartSimulMore10
import Derived.Test.YtkkccomdclklhaaPartSimulMore13
import Derived.Laws.AppendOwnNone
namespace Go.Proofs.Ytkkccomdclklhaa
open Go.ChangeShapes Go.WideShapes Go.ChangeAt Go.RowKit
theorem wpList_appI {w : World} {ops : Array Oper} {rest : List Oper} {o : Oper} {a : Act} {Q : Exit → Act → World → Prop} (hgd : o.guard = none) (s x : Operand) (ho : o.op = .call { callee := .builtin .append, args := #[s, x], argTypes := #[25, 25] })
    (B : Nat) (d0 : Option Addr) (c0 : Nat) (zs : List Int) (hs : a.eval s = .slice d0 zs.length c0) (hown : CapR B w d0 c0 zs) (ad : Option Addr) (c : Nat) (ys : List Int) (hx : a.eval x = .slice ad ys.length c) (hna : ad = none → ys.length = 0 ∧ c = 0) (hat : At w ad ys) (hb : (zs.length + ys.length) * 8 ≤ 140737488355328) (hB : B ≤ w.heap.size) (m : Nat) (R : List Int) (hm : zs.length + ys.length = m) (hR : zs ++ ys = R)
    (h : ∀ d c' w', CapR B w' d c' R → Below B w w' → wpList Try.prog ops Q rest (a.put o.dst (.slice d m c')) w') : wpList Try.prog ops Q (o :: rest) a w := by
  subst hm
  subst hR
  obtain ⟨i0, hi, hz0, hz1, hz2⟩ := info_parts Try.info3
  cases ad with
  | none =>
    obtain ⟨h1, rfl⟩ := hna rfl
    have e : ys = [] := List.eq_nil_of_length_eq_zero h1
    subst e
    refine wpList_append_own_none hgd s x 25 ho B 3 i0 1 Try.underlying25 hi _ zs.length (zs.map (Value.int .i64)) hs hown hx ?_
    have := h d0 c0 w (by rw [List.append_nil]; exact hown) (Below.refl _ _)
    simpa using this
  | some ad =>
    refine wpList_append_own _ hgd s x 25 ho B 3 i0 (.int .i64 0) 1 8 Try.underlying25 hi hz0 hz1 hz2 rfl (by decide) _ zs.length (zs.map (Value.int .i64)) hs hown ad ys.length c (ys.map (Value.int .i64)) hx (by simp) (lies_new hat) (ints_oneCell _ _) (by unfold maxLen; omega) (by omega) hB ?_
    intro v' w1 hown1 hgrow _
    have hown' : w1.ownsRow B 3 1 v' (zs.length + ys.length) ((zs ++ ys).map (Value.int .i64)) := by simpa using hown1
    obtain ⟨a', cap', hv, -, -, -, -, -⟩ := owns_at (n := zs.length + ys.length) (zs := zs ++ ys) hown'
    rw [hv]
    refine h a' cap' w1 ?_ ((Below.refl _ _).grown hgrow hB (fun k hk => (hown.lt ⟨k, 0, none⟩ (by
      cases d0 with
      | none => cases hk
      | some y =>
        rcases hown.2 with ⟨e1, -⟩ | ⟨g, cap, cur, e1, -⟩
        · cases e1
        · cases e1; cases hk; rfl)).1))
    unfold CapR
    rw [List.length_append, ← hv]
    exact hown'
/-- Rows of two answers are the same. -/
theorem sameN (U : World) (a1 a2 : Option Addr) (zs : List Int) (c1 c2 : Nat) (hl : zs.length ≤ 4611686018427387904) (h1 : At U a1 zs) (h2 : At U a2 zs) : Calls Try.prog 15 #[.slice a1 zs.length c1, .slice a2 zs.length c2] U fun e w' => e = .returned (.bool true) ∧ Below U.heap.size U w' :=
  (same_any a1 a2 zs zs.length c1 c2 U rfl hl h1 h2).mono fun e w' hh => by
    obtain ⟨n, h1, rfl⟩ := hh
    exact ⟨h1, drewB (Below.refl _ _) n⟩
theorem sizNet : (Try.prog.info? 24).map (·.size) = some 2 := by kernel_rfl
theorem wpList_appA {w : World} {ops : Array Oper} {rest : List Oper} {o : Oper} {a : Act} {Q : Exit → Act → World → Prop} (hgd : o.guard = none) (s x : Operand) (ho : o.op = .call { callee := .builtin .append, args := #[s, x], argTypes := #[22, 22] })
    (hs : a.eval s = .slice none 0 0) (ad : Option Addr) (c : Nat) (L : List NA) (hx : a.eval x = .slice ad L.length c) (hna : ad = none → L.length = 0 ∧ c = 0) (hat : AtN w ad L) (hb : L.length * 40 ≤ 140737488355328)
    (h : ∀ d c' w', w'.ownsRow w.heap.size 50 5 (.slice d L.length c') L.length (flatN L) → (d = none → L.length = 0 ∧ c' = 0) → Below w.heap.size w w' → wpList Try.prog ops Q rest (a.put o.dst (.slice d L.length c')) w') : wpList Try.prog ops Q (o :: rest) a w := by
  obtain ⟨i0, hi, hz0, hz1, hz2⟩ := info_parts Try.infoArc
  have ON := World.ownsRow_nil w w.heap.size 50 5
  cases ad with
  | none =>
    obtain ⟨h1, rfl⟩ := hna rfl
    have e : L = [] := List.eq_nil_of_length_eq_zero h1
    subst e
    refine wpList_append_own_none hgd s x 22 ho w.heap.size 50 i0 5 Try.underlying22 hi _ 0 [] hs ON hx ?_
    exact h none 0 w ON (fun _ => ⟨rfl, rfl⟩) (Below.refl _ _)
  | some ad =>
    refine wpList_append_own _ hgd s x 22 ho w.heap.size 50 i0 _ 5 40 Try.underlying22 hi hz0 hz1 hz2 rfl (by decide) _ 0 [] hs ON ad L.length c (flatN L) hx (by rw [flatN_len]) (AtN.flat hat) (flatN_one L) (by unfold maxLen; omega) (by omega) (Nat.le_refl _) ?_
    intro v' w1 hown hgrow _
    have hown' : w1.ownsRow w.heap.size 50 5 v' L.length (flatN L) := by simpa using hown
    obtain ⟨a', cap', rfl, -, -⟩ := ownsN_at hown'
    refine h a' cap' w1 hown' (fun e => ?_) ((Below.refl _ _).grown hgrow (Nat.le_refl _) (fun k hk => by cases hk))
    subst e
    rcases hown'.2 with ⟨e1, e2⟩ | ⟨g, cap, cur, e1, -⟩
    · simp at e1; exact ⟨e2, e1.2⟩
    · cases e1
/-- A net as new memory. -/
def NetE (n : NN) (w : World) (e : Ending) (w' : World) : Prop := ∃ (a : Option Addr) (c : Nat), e = .returned (.agg #[.int .i64 n.nodes, .slice a n.arcs.length c]) ∧ AtN w' a n.arcs ∧ (a = none → n.arcs.length = 0 ∧ c = 0) ∧ (∀ x, a = some x → w.heap.size ≤ x.block ∧ x.block < w'.heap.size) ∧ w'.ownsRow w.heap.size 50 5 (.slice a n.arcs.length c) n.arcs.length (flatN n.arcs) ∧ Below w.heap.size w w'
set_option maxRecDepth 100000 in
set_option maxHeartbeats 4000000 in
theorem rnet_any (n : NN) (a : Option Addr) (c : Nat) (w : World) (h : ArgN w a c n) : Calls Try.prog 20 #[.agg #[.int .i64 n.nodes, .slice a n.arcs.length c]] w (NetE n w) := by
  obtain ⟨NE, hNE⟩ : ∃ R, NetE n w = R := ⟨_, rfl⟩
  rw [hNE]
  have HNE := hiddenN hNE
  clear hNE
  have b0 := (Below.refl w.heap.size w).alloc (Nat.le_refl _) (.cells #[.int .i64 n.nodes, .slice a n.arcs.length c] 24)
  have b1 := b0.alloc b0.size (.cells #[.int .i64 0, .slice none 0 0] 24)
  have g0 := (blkA_new 24 w #[.int .i64 n.nodes, .slice a n.arcs.length c]).below ((Below.refl _ _).alloc (Nat.le_refl _) (.cells #[.int .i64 0, .slice none 0 0] 24))
  have G1 := hiddenN (blkA_new 24 (w.alloc (.cells #[.int .i64 n.nodes, .slice a n.arcs.length c] 24)) #[.int .i64 0, .slice none 0 0])
  have hsz : (w.alloc (.cells #[.int .i64 n.nodes, .slice a n.arcs.length c] 24)).heap.size = w.heap.size + 1 := World.size_alloc _ _
  rw [hsz] at G1
  have y0 := g0.cell (k := 0) rfl
  have y1 := g0.cell (k := 1) rfl
  simp only [List.getElem_toArray, List.getElem_cons_zero, List.getElem_cons_succ] at y0 y1
  have G0 := hiddenN g0
  have B1 := hiddenN b1
  have HA := hiddenN (h.below b1)
  have hroom := h.room
  clear b0 b1 g0 h
  go_enter Try.func20, Try.ntmps20
  go_upto_region 1 with fail
  generalize (w.alloc (.cells #[.int .i64 n.nodes, .slice a n.arcs.length c] 24)).alloc (.cells #[.int .i64 0, .slice none 0 0] 24) = V0 at *
  go_upto_region 3 with (at_builtin; refine wpList_appA rfl _ _ rfl rfl a c n.arcs rfl HA.out.none HA.out.lies (by omega) ?_; intro d cc W3 ho3 hn3 b3; have O3 := hiddenN ho3; have N3 := hiddenN hn3; have BB3 := hiddenN b3; have G3 := hiddenN (G1.out.below b3); have G4 := hiddenN (G0.out.below b3); clear ho3 hn3 b3 y0 y1)
  have y0 := G4.out.cell (k := 0) rfl
  simp only [List.getElem_toArray, List.getElem_cons_zero] at y0
  have hlt1 := G1.out.lt
  have hB := B1.out.size
  clear G0 G1 HA G4
  go_wp2_with (refine wpList_storeW _ rfl 24 (.tmp 2) (.tmp 11) rfl rfl (w.heap.size + 1) 24 _ _ rfl rfl G3.out sizNet rfl rfl ?_; intro w8 hN hU; have N8 := hiddenN hN; have U8 := hiddenN hU; clear hN hU)
  have t0 := N8.out.cell (k := 0) rfl
  have t1 := N8.out.cell (k := 1) rfl
  simp only [List.getElem_toArray, List.getElem_cons_zero, List.getElem_cons_succ] at t0 t1
  refine bodyPost_ret (v := .agg #[.int .i64 n.nodes, .slice d n.arcs.length cc]) (by simp [results, Try.results20, go_sem, t0, t1]) rfl ?_
  rw [← HNE.out]
  obtain ⟨a', c', ev, hat, hbl⟩ := ownsN_at O3.out
  cases ev
  have keep : ∀ x, d = some x → w8.heap[x.block]? = W3.heap[x.block]? := fun x hx => U8.out.block _ (hbl x hx).2 (by have := (hbl x hx).1; omega)
  refine ⟨d, cc, rfl, hat.keep keep, N3.out, fun x hx => ⟨by have := (hbl x hx).1; omega, Nat.lt_of_lt_of_le (hbl x hx).2 U8.out.size⟩, ?_, (B1.out.trans (BB3.out.mono hB)).trans (U8.out.below (by omega) (Nat.le_trans hB BB3.out.size))⟩
  refine ⟨O3.out.1, ?_⟩
  rcases O3.out.2 with q | ⟨g, cap, cur, e1, hg, hh, r⟩
  · exact .inl q
  · simp at e1
    obtain ⟨rfl, rfl⟩ := e1
    exact .inr ⟨g, cc, cur, rfl, by omega, by rw [keep _ rfl]; exact hh, r⟩
theorem AtN.lt {w : World} {a : Option Addr} {L : List NA} (h : AtN w a L) (hL : 0 < L.length) : ∀ x, a = some x → x.block < w.heap.size := by
  intro x hx
  rcases h with e | ⟨b, off, e, hc⟩
  · rw [e] at hL; exact absurd hL (Nat.lt_irrefl _)
  · rw [e] at hx
    cases hx
    exact block_lt_of_cell (hc 0 hL).1
end Go.Proofs.Ytkkccomdclklhaa

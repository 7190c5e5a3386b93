/- Rows of arcs copied; tables of rows that grow. (Written by tmpl/mkN5.py.) -/
import Derived.Test.YtancphohpedigaaN4
import Derived.Test.YtancphohpedigaaRegGho
namespace Go.Proofs.Ytancphohpedigaa
open Go.ChangeShapes Go.WideShapes Go.ChangeAt Go.RowKit

def celN (a : NA) (j : Nat) : Value := .int .i64 (match j with | 0 => a.f | 1 => a.t | 2 => a.g | 3 => a.k | _ => a.s)
def fiveN (a : NA) : List Value := [.int .i64 a.f, .int .i64 a.t, .int .i64 a.g, .int .i64 a.k, .int .i64 a.s]
def flatN : List NA → List Value
  | [] => []
  | a :: L => fiveN a ++ flatN L
theorem flatN_len : ∀ L : List NA, (flatN L).length = L.length * 5
  | [] => rfl
  | a :: L => by
    show (fiveN a ++ flatN L).length = _
    rw [List.length_append, flatN_len L, List.length_cons]
    show 5 + L.length * 5 = _
    omega
theorem fiveN_get (a : NA) {j : Nat} (hj : j < 5) : (fiveN a)[j]? = some (celN a j) := by
  match j, hj with
  | 0, _ => rfl
  | 1, _ => rfl
  | 2, _ => rfl
  | 3, _ => rfl
  | 4, _ => rfl
theorem flatN_get : ∀ {L : List NA} {k j : Nat}, k < L.length → j < 5 → (flatN L)[k * 5 + j]? = some (celN (nthNa L k) j)
  | [], k, j, hk, _ => absurd hk (Nat.not_lt_zero _)
  | a :: L, 0, j, _, hj => by
    show (fiveN a ++ flatN L)[0 * 5 + j]? = _
    rw [Nat.zero_mul, Nat.zero_add, List.getElem?_append_left (by show j < 5; exact hj)]
    exact fiveN_get a hj
  | a :: L, k + 1, j, hk, hj => by
    show (fiveN a ++ flatN L)[(k + 1) * 5 + j]? = _
    rw [List.getElem?_append_right (by show 5 ≤ _; omega)]
    have e : (k + 1) * 5 + j - (fiveN a).length = k * 5 + j := by show (k + 1) * 5 + j - 5 = _; omega
    rw [e]
    exact flatN_get (Nat.lt_of_succ_lt_succ hk) hj
theorem AtN.flat {w : World} {ad : Addr} {L : List NA} (h : AtN w (some ad) L) : ∀ j u, (flatN L)[j]? = some u → w.cell? (ad.add j) = some u := by
  intro j u hu
  have hj : j < L.length * 5 := by rw [← flatN_len]; exact (List.getElem?_eq_some_iff.1 hu).1
  rcases h with e | ⟨b, off, e, hc⟩
  · subst e; simp at hj
  · cases e
    have hk : j / 5 < L.length := by omega
    have e1 : j = j / 5 * 5 + j % 5 := by omega
    have hr : j % 5 < 5 := Nat.mod_lt _ (by decide)
    have h1 := flatN_get (L := L) hk hr
    rw [← e1, hu] at h1
    cases h1
    obtain ⟨c0, c1, c2, c3, c4⟩ := hc (j / 5) hk
    have ea : (⟨b, off, none⟩ : Addr).add j = ⟨b, off + j / 5 * 5 + j % 5, none⟩ := by
      have e2 : off + j / 5 * 5 + j % 5 = off + j := by omega
      rw [e2]
      simp [Addr.add]
    rw [ea]
    clear ea e1
    generalize j / 5 = k at *
    generalize j % 5 = r at *
    match r, hr with
    | 0, _ => exact c0
    | 1, _ => exact c1
    | 2, _ => exact c2
    | 3, _ => exact c3
    | 4, _ => exact c4
theorem flatN_one (L : List NA) : ∀ u ∈ flatN L, u.oneCell' = true := by
  induction L with
  | nil => intro u hu; cases hu
  | cons a L ih =>
    intro u hu
    rcases List.mem_append.1 (show u ∈ fiveN a ++ flatN L from hu) with h | h
    · simp [fiveN] at h
      rcases h with rfl | rfl | rfl | rfl | rfl <;> rfl
    · exact ih u h
theorem ownsN_at {w : World} {base n : Nat} {v : Value} {L : List NA} (h : w.ownsRow base 44 5 v n (flatN L)) : ∃ a cap, v = .slice a n cap ∧ AtN w a L ∧ (∀ x, a = some x → base ≤ x.block ∧ x.block < w.heap.size) := by
  have hl : L.length = n := by have h1 := h.1; rw [flatN_len] at h1; omega
  rcases h.2 with ⟨hv, hn⟩ | ⟨g, cap, cur, hv, hg, hh, hc, hm, hs, ht⟩
  · exact ⟨none, 0, by rw [hv, hn], Or.inl (List.eq_nil_of_length_eq_zero (by omega)), fun x hx => by cases hx⟩
  · rw [hv] at h
    refine ⟨some ⟨g, 0, none⟩, cap, hv, Or.inr ⟨g, 0, rfl, fun k hk => ?_⟩, fun x hx => by cases hx; exact ⟨hg, (Array.getElem?_eq_some_iff.1 hh).1⟩⟩
    have key : ∀ j, j < 5 → w.cell? ⟨g, k * 5 + j, none⟩ = some (celN (nthNa L k) j) := fun j hj => by
      rw [h.cellAt (k * 5 + j) (by omega), flatN_get hk hj]
    rw [Nat.zero_add]
    exact ⟨key 0 (by decide), key 1 (by decide), key 2 (by decide), key 3 (by decide), key 4 (by decide)⟩
theorem Try.infoArc : (Try.prog.info? 44).map (fun i => (i.zero, i.size, i.bytes)) = some (some (.agg #[.int .i64 0, .int .i64 0, .int .i64 0, .int .i64 0, .int .i64 0]), 5, 40) := by kernel_rfl
def ArcsEnd (w : World) (L : List NA) (e : Ending) (w' : World) : Prop := ∃ (a : Option Addr) (cap : Nat), e = .returned (.slice a L.length cap) ∧ AtN w' a L ∧ (∀ x, a = some x → w.heap.size ≤ x.block ∧ x.block < w'.heap.size) ∧ Below w.heap.size w w'
theorem emptyA_own (w : World) : (w.alloc (.cells #[] 44)).ownsRow w.heap.size 44 5 (.slice (some ⟨w.heap.size, 0, none⟩) 0 0) 0 [] :=
  ⟨rfl, .inr ⟨w.heap.size, 0, #[], rfl, Nat.le_refl _, by show (w.heap.push _)[w.heap.size]? = _; simp, Nat.le_refl _, by unfold maxLen; omega, rfl, rfl⟩⟩
set_option maxRecDepth 100000 in
set_option maxHeartbeats 400000 in
theorem cloneA_any (a : Option Addr) (L : List NA) (len cap : Nat) (w : World) (hl : L.length = len) (hr : len ≤ 96) (hn : a = none → len = 0 ∧ cap = 0) (h : AtN w a L) :
    Calls Try.prog 44 #[.slice a len cap] w (ArcsEnd w L) := by
  obtain ⟨i0, hi, hz0, hz1, hz2⟩ := info_parts Try.infoArc
  cases a with
  | none =>
    obtain ⟨rfl, rfl⟩ := hn rfl
    have e : L = [] := List.eq_nil_of_length_eq_zero hl
    subst e
    have q0 := Lib.run_eql_slice_nil (P := Try.prog) w 22 44 none 0 0 0 0 Try.underlying22
    go_enter Try.func44, Try.ntmps44
    go_wp2
    go_ret
    exact ⟨none, 0, rfl, .inl rfl, (fun x hx => by cases hx), Below.refl _ _⟩
  | some ad =>
    have EO := hiddenN (emptyA_own w)
    have HA := hiddenN (h.below ((Below.refl w.heap.size w).alloc (Nat.le_refl _) (.cells #[] 44)))
    clear h
    have q0 := Lib.run_eql_slice_nil (P := Try.prog) w 22 44 (some ad) len cap 0 0 Try.underlying22
    go_enter Try.func44, Try.ntmps44
    go_wp2_with (at_builtin; refine wpList_append_own _ rfl _ _ 22 rfl w.heap.size 44 i0 _ 5 40 Try.underlying22 hi hz0 hz1 hz2 rfl (by decide) _ 0 [] rfl EO.out ad len cap (flatN L) rfl (by rw [flatN_len, hl]) (AtN.flat HA.out) (flatN_one L) ?c3 ?c4 (by simp) ?_)
    case c3 => unfold maxLen; omega
    case c4 => omega
    intro v' w1 hown hgrow _
    have hown' : w1.ownsRow w.heap.size 44 5 v' len (flatN L) := by simpa using hown
    obtain ⟨a', cap', hv, hat', hb'⟩ := ownsN_at hown'
    rw [hv]
    go_wp2
    go_ret
    exact ⟨a', cap', by rw [hl]; rfl, hat', hb', ((Below.refl _ _).alloc (Nat.le_refl _) _).grown hgrow (by simp) (fun k h => by cases h; exact Nat.le_refl _)⟩
/-- A table of rows, as it lies: H the table's block, D the rows'. -/
structure TabN (B : Nat) (w : World) (H N : Nat) (D : Nat → Option Addr) (E : Nat → Nat) (Y : Nat → List Int) : Prop where
  own : ∀ j, j < N → CapR B w (D j) (E j) (Y j)
  long : w.rowIs H 45 N (fun j => .slice (D j) (Y j).length (E j))
  dd : ∀ j k x y, j < N → k < N → j ≠ k → D j = some x → D k = some y → x.block ≠ y.block
  dt : ∀ j x, j < N → D j = some x → x.block ≠ H
  low : B ≤ H
/-- Its blocks. -/
def ofT (N H : Nat) (D : Nat → Option Addr) (k : Nat) : Prop := k = H ∨ ∃ j x, j < N ∧ D j = some x ∧ x.block = k
theorem TabN.lt {B : Nat} {w : World} {H N : Nat} {D : Nat → Option Addr} {E : Nat → Nat} {Y : Nat → List Int} (h : TabN B w H N D E Y) {k : Nat} (hk : ofT N H D k) : B ≤ k ∧ k < w.heap.size := by
  rcases hk with rfl | ⟨j, x, hj, hx, rfl⟩
  · exact ⟨h.low, h.long.lt⟩
  · exact (h.own j hj).lt x hx
theorem TabN.keep {B : Nat} {w w' : World} {H N : Nat} {D : Nat → Option Addr} {E : Nat → Nat} {Y : Nat → List Int} (h : TabN B w H N D E Y) (hk : ∀ k, ofT N H D k → w'.heap[k]? = w.heap[k]?) : TabN B w' H N D E Y :=
  ⟨fun j hj => (h.own j hj).keep fun x hx => hk _ (.inr ⟨j, x, hj, hx, rfl⟩), h.long.of_block (hk H (.inl rfl)), h.dd, h.dt, h.low⟩
theorem TabN.below {B : Nat} {w w' : World} {H N : Nat} {D : Nat → Option Addr} {E : Nat → Nat} {Y : Nat → List Int} (h : TabN B w H N D E Y) (hb : Below w.heap.size w w') : TabN B w' H N D E Y := h.keep fun k hk => hb.block k (h.lt hk).2
theorem tabN_start {B : Nat} {w : World} {H N : Nat} (hB : B ≤ H) (h : w.rowIs H 45 N (fun _ => .slice none 0 0)) : TabN B w H N (fun _ => none) (fun _ => 0) (fun _ => []) :=
  ⟨fun _ _ => CapR.nil _ _, h, (fun _ _ _ _ _ _ _ h => by cases h), (fun _ _ _ h => by cases h), hB⟩
/-- A row has grown: which blocks may have changed. -/
theorem TabN.put {B : Nat} {wr w2 : World} {H N i c : Nat} {D : Nat → Option Addr} {E : Nat → Nat} {Y : Nat → List Int} {d : Option Addr} {L : List Int} (h : TabN B wr H N D E Y) (hi : i < N) (hd : CapR B w2 d c L) (hk : ∀ k, k < wr.heap.size → (∀ y, D i = some y → y.block ≠ k) → w2.heap[k]? = wr.heap[k]?) (hn : ∀ z, d = some z → D i = some z ∨ wr.heap.size ≤ z.block) :
    TabN B (w2.setCell ⟨H, i, none⟩ (.slice d L.length c)) H N (upd D i d) (upd E i c) (upd Y i L) := by
  have hH := h.long.lt
  have dH : ∀ z, d = some z → z.block ≠ H := fun z hz => by
    rcases hn z hz with h1 | h1
    · exact h.dt i z hi h1
    · omega
  have far : ∀ j x z, j < N → j ≠ i → D j = some x → d = some z → x.block ≠ z.block := fun j x z hj hji hx hz => by
    rcases hn z hz with h1 | h1
    · exact h.dd j i x z hj hi hji hx h1
    · have := ((h.own j hj).lt x hx).2; omega
  refine ⟨fun j hj => ?_, ?_, fun j k x y hj hk' hjk hx hy => ?_, fun j x hj hx => ?_, h.low⟩
  · by_cases e : j = i
    · subst e
      rw [upd_eq, upd_eq, upd_eq]
      exact hd.setOther (ad := ⟨H, j, none⟩) dH _
    · rw [upd_ne e, upd_ne e, upd_ne e]
      refine ((h.own j hj).keep fun x hx => hk _ ((h.own j hj).lt x hx).2 fun y hy => (h.dd j i x y hj hi e hx hy).symm).setOther (ad := ⟨H, i, none⟩) (fun x hx => h.dt j x hj hx) _
  · refine ((h.long.of_block (hk H hH fun y hy => h.dt i y hi hy)).set i _).congr fun j hj => ?_
    by_cases e : j = i
    · subst e; rw [if_pos rfl, upd_eq, upd_eq, upd_eq]
    · rw [if_neg e, upd_ne e, upd_ne e, upd_ne e]
  · by_cases e : j = i
    · subst e
      rw [upd_eq] at hx
      rw [upd_ne (Ne.symm hjk)] at hy
      exact (far k y x hk' (Ne.symm hjk) hy hx).symm
    · rw [upd_ne e] at hx
      by_cases e2 : k = i
      · subst e2
        rw [upd_eq] at hy
        exact far j x y hj e hx hy
      · rw [upd_ne e2] at hy
        exact h.dd j k x y hj hk' hjk hx hy
  · by_cases e : j = i
    · subst e; rw [upd_eq] at hx; exact dH x hx
    · rw [upd_ne e] at hx; exact h.dt j x hj hx
theorem ofT_put {N H i : Nat} {D : Nat → Option Addr} {d : Option Addr} {k : Nat} (h : ofT N H (upd D i d) k) : ofT N H D k ∨ ∃ z, d = some z ∧ z.block = k := by
  rcases h with h | ⟨j, x, hj, hx, hk⟩
  · exact .inl (.inl h)
  · by_cases e : j = i
    · subst e; rw [upd_eq] at hx; exact .inr ⟨x, hx, hk⟩
    · rw [upd_ne e] at hx; exact .inl (.inr ⟨j, x, hj, hx, hk⟩)
end Go.Proofs.Ytancphohpedigaa

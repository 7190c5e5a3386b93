/- Each token stands where it says, as it is written (LexPlaces). -/
import Derived.Test.YtendmdokgpgngaaDoorLRight
import Derived.Test.YtendmdokgpgngaaDoorLJoin
namespace Go.Proofs.YtendmdokgpgngaaDoor
open Go.ChangeShapes Go.WideShapes Go.ChangeAt Go.RowKit

theorem right_of {t : Tok} (h : (t.sort = 1 ∧ t.num = 0 ∧ t.text.length ≤ 16 ∧ letB (by8 t.text 0) = true ∧ rowN wordB t.text = t.text.length) ∨ (t.sort = 2 ∧ t.text = [] ∧ fits8 t.num = true) ∨ (t.sort = 3 ∧ t.num = 0 ∧ markT t.text = true)) : rightB t = true ∧ fits8 t.num = true ∧ t.sort ≠ 0 := by
  unfold rightB
  rcases h with ⟨a, b, c, d, e⟩ | ⟨a, b, c⟩ | ⟨a, b, c⟩
  · refine ⟨?_, by rw [b]; rfl, by omega⟩
    rw [if_pos a, b]
    unfold nameB
    rw [decide_eq_true c, d, decide_eq_true e]
    rfl
  · refine ⟨?_, c, by omega⟩
    rw [if_neg (by omega), if_pos a, b]
    rfl
  · refine ⟨?_, by rw [b]; rfl, by omega⟩
    rw [if_neg (by omega), if_neg (by omega), if_pos a, b, c]
    rfl
/-- One token of a text that is read, and the rest. -/
structure Step (l : List UInt8) (p : Nat) (t : Tok) (rest : List Tok) (q : Nat) (s : List UInt8) : Prop where
  place : t.place = (q : Int)
  le : p ≤ q
  spelt : spelt t = s
  stands : (l.drop q).take s.length = s
  room : q + s.length ≤ l.length
  fits : fits8 t.num = true
  ways : (t.sort = 0 ∧ rest = [] ∧ q + s.length = l.length) ∨ (t.sort ≠ 0 ∧ rightB t = true ∧ rest ≠ [] ∧ allL (q + s.length) (l.drop (q + s.length)) = ⟨rest, 0, 0⟩)
theorem place_step {l : List UInt8} {p : Nat} {ts : List Tok} (hp : p ≤ l.length) (h : allL p (l.drop p) = ⟨ts, 0, 0⟩) : ∃ t rest q s, ts = t :: rest ∧ Step l p t rest q s := by
  have hk := skipN_le false (l.drop p)
  rw [List.length_drop] at hk
  by_cases h1 : (l.drop p).drop (skipN false (l.drop p)) = []
  · rw [allL_end h1] at h
    have hl := congrArg List.length h1
    rw [List.length_drop, List.length_drop, List.length_nil] at hl
    simp only [Got.mk.injEq, and_true] at h
    exact ⟨⟨0, [], 0, ((p + skipN false (l.drop p) : Nat) : Int)⟩, [], p + skipN false (l.drop p), [], h.symm, ⟨rfl, by omega, rfl, rfl, by simp; omega, rfl, Or.inl ⟨rfl, rfl, by simp; omega⟩⟩⟩
  · by_cases h2 : (tokO ((l.drop p).drop (skipN false (l.drop p)))).err = 0
    · rw [allL_tok h1 h2] at h
      have h3 := tok_some h2
      obtain ⟨hs1, hs2⟩ := tok_spelt h2
      obtain ⟨r1, r2, r3⟩ := right_of hs2
      rw [List.drop_drop] at h h2 h3 hs1 r1 r2 r3
      rw [List.drop_drop, ← Nat.add_assoc] at h
      rw [List.length_drop] at h3
      have hg : (allL (p + skipN false (l.drop p) + (tokO (l.drop (p + skipN false (l.drop p)))).n) (l.drop (p + skipN false (l.drop p) + (tokO (l.drop (p + skipN false (l.drop p)))).n))).err = 0 := by
        unfold Got.cons at h
        by_cases hg : (allL (p + skipN false (l.drop p) + (tokO (l.drop (p + skipN false (l.drop p)))).n) (l.drop (p + skipN false (l.drop p) + (tokO (l.drop (p + skipN false (l.drop p)))).n))).err = 0
        · exact hg
        · rw [if_neg hg] at h
          rw [h] at hg; exact absurd rfl hg
      have hz := allL_zero hg
      have hsm := all_some _ (p + skipN false (l.drop p) + (tokO (l.drop (p + skipN false (l.drop p)))).n) _ (Nat.le_refl _) hg
      unfold Got.cons at h
      rw [if_pos hg] at h
      simp only [Got.mk.injEq, and_true] at h
      have hlen : ((l.drop (p + skipN false (l.drop p))).take (tokO (l.drop (p + skipN false (l.drop p)))).n).length = (tokO (l.drop (p + skipN false (l.drop p)))).n := by
        rw [List.length_take, List.length_drop]; omega
      refine ⟨{ (tokO (l.drop (p + skipN false (l.drop p)))).tok with place := ((p + skipN false (l.drop p) : Nat) : Int) }, _, p + skipN false (l.drop p), (l.drop (p + skipN false (l.drop p))).take (tokO (l.drop (p + skipN false (l.drop p)))).n, h.symm, ⟨rfl, by omega, hs1, by rw [hlen], by rw [hlen]; omega, r2, Or.inr ⟨r3, r1, hsm.2, ?_⟩⟩⟩
      rw [hlen]
      generalize allL (p + skipN false (l.drop p) + (tokO (l.drop (p + skipN false (l.drop p)))).n) (l.drop (p + skipN false (l.drop p) + (tokO (l.drop (p + skipN false (l.drop p)))).n)) = g at hg hz ⊢
      obtain ⟨a, b, c⟩ := g
      simp only at hg hz
      subst hg
      subst hz
      rfl
    · rw [allL_err h1 h2] at h
      exact absurd (congrArg Got.err h) h2
theorem drop_cons_nth {ts : List Tok} {i : Nat} {t : Tok} {rest : List Tok} (h : ts.drop i = t :: rest) : i < ts.length ∧ nthT ts i = t ∧ ts.drop (i + 1) = rest ∧ (rest = [] → i + 1 = ts.length) ∧ (rest ≠ [] → i + 1 < ts.length) := by
  have hl := congrArg List.length h
  rw [List.length_drop, List.length_cons] at hl
  have hlt : i < ts.length := by omega
  have hd : ts.drop (i + 1) = rest := by
    have := congrArg List.tail h
    rw [List.tail_drop] at this
    exact this
  refine ⟨hlt, ?_, hd, fun e => ?_, fun e => ?_⟩
  · unfold nthT
    rw [List.getD_eq_getElem?_getD]
    have := congrArg (fun x => x[0]?) h
    simp only [List.getElem?_drop, Nat.add_zero, List.getElem?_cons_zero] at this
    rw [this]
    rfl
  · subst e; simp at hl; omega
  · have : 0 < rest.length := List.length_pos_iff.2 e
    omega

set_option maxRecDepth 100000 in
set_option maxHeartbeats 2000000 in
theorem places_err (l : List UInt8) (w : World) (hE : Env w) (her : (textG l).err ≠ 0) : Calls Tryd.prog 7 #[.string (str l)] w (JoinsEnd w) := by
  have e1 := str_size l
  have hz : (textG l).toks = [] ∧ 0 ≤ (textG l).place ∧ ((textG l).place < (l.length : Int) ∨ (textG l).err = 2) := by
    rcases Nat.lt_or_ge 1048576 l.length with h | h
    · unfold textG; rw [if_pos h]; exact ⟨rfl, by decide, Or.inr rfl⟩
    · rw [text_short h] at her ⊢
      obtain ⟨a, b, c⟩ := all_err_nil l.length 0 l (Nat.le_refl _) her
      exact ⟨a, by omega, Or.inl (by omega)⟩
  obtain ⟨hnil, hp0, hp1⟩ := hz
  have A1 : Hid (∀ W, Env W → Calls Tryd.prog 9 #[.string (str l)] W fun e w' => ∃ a cap, e = .returned (.tuple #[.slice a 0 cap, .agg #[.int .i64 (textG l).err, .int .i64 (textG l).place]]) ∧ Below W.heap.size W w') := all_fault l 0 _ _ (by rw [hnil]; exact ⟨rfl, rfl, rfl⟩)
  generalize (textG l).err = er at *
  generalize (textG l).place = pl at *
  have her' : decide (er = 0) = false := decide_eq_false her
  have her2 : (er != 0) = true := by simpa using her
  have b1 : (0 : Int) ≤ pl := hp0
  have HW := hidden awake_any
  have HE := hidden hE
  clear hE hnil
  have al : Hid (∀ {w1 : World} (o : Obj), Below w.heap.size w w1 → Below w.heap.size w (w1.alloc o)) := fun o h => h.alloc h.size o
  by_cases hlt : pl < (l.length : Int)
  · clear hp1
    go_enter Tryd.func7, Tryd.ntmps7
    go_wp2_with (first
      | (go_at_call 12; (with_reducible refine (HW.out _ (HE.out.below (al.out _ B1.out))).mono ?_); rintro e w4 ⟨rfl, hb4⟩; have B4 := hidden ((al.out _ B1.out).trans (hb4.mono (al.out _ B1.out).size)); have D4 := (two_new _ _ _ _).later hb4; have s0 := D4.c0; have s1 := D4.c1; clear hb4 D4)
      | (go_at_call 9; (with_reducible refine (A1.out _ HE.out).mono ?_); rintro e w1 ⟨a1, p1, rfl, hb1⟩; have B1 := hidden hb1; clear hb1))
    go_ret
    exact ⟨rfl, B4.out⟩
  · have e2 : er = 2 := by rcases hp1 with h | h; exact absurd h hlt; exact h
    subst e2
    have hlt' : decide (pl < (l.length : Int)) = false := decide_eq_false hlt
    clear hp1
    go_enter Tryd.func7, Tryd.ntmps7
    go_wp2_with (first
      | (go_at_call 12; (with_reducible refine (HW.out _ (HE.out.below (al.out _ B1.out))).mono ?_); rintro e w4 ⟨rfl, hb4⟩; have B4 := hidden ((al.out _ B1.out).trans (hb4.mono (al.out _ B1.out).size)); have D4 := (two_new _ _ _ _).later hb4; have s0 := D4.c0; have s1 := D4.c1; clear hb4 D4)
      | (go_at_call 9; (with_reducible refine (A1.out _ HE.out).mono ?_); rintro e w1 ⟨a1, p1, rfl, hb1⟩; have B1 := hidden hb1; clear hb1))
    go_ret
    exact ⟨rfl, B4.out⟩
end Go.Proofs.YtendmdokgpgngaaDoor

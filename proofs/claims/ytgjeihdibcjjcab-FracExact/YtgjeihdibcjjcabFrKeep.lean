/- Fractions that are lent, with a marked one behind (the law package's lent), and whether they are as they were (kept). -/
import Derived.Test.YtgjeihdibcjjcabFrArg
namespace Go.Proofs.Ytgjeihdibcjjcab
open Go.ChangeShapes Go.WideShapes Go.ChangeAt Go.RowKit

def flat (fs : List (Int × Int)) : List Value := fs.flatMap fun f => [.int .i64 f.1, .int .i64 f.2]
theorem flat_len (fs : List (Int × Int)) : (flat fs).length = fs.length * 2 := by
  induction fs with
  | nil => rfl
  | cons f fs ih => show (flat fs).length + 1 + 1 = (fs.length + 1) * 2; omega
theorem flat_app (fs gs : List (Int × Int)) : flat (fs ++ gs) = flat fs ++ flat gs := by simp [flat, List.flatMap_append]
theorem flat_get {fs : List (Int × Int)} {k : Nat} (h : k < fs.length) : (flat fs)[k * 2]? = some (.int .i64 (nthN fs k)) ∧ (flat fs)[k * 2 + 1]? = some (.int .i64 (nthD fs k)) := by
  induction fs generalizing k with
  | nil => simp at h
  | cons f fs ih =>
    cases k with
    | zero => exact ⟨rfl, rfl⟩
    | succ k =>
      have := ih (k := k) (by simpa using h)
      have e1 : (k + 1) * 2 = k * 2 + 1 + 1 := by omega
      rw [e1]
      exact this
theorem flat_one (fs : List (Int × Int)) : ∀ u ∈ flat fs, u.oneCell' = true := by
  intro u hu
  simp only [flat, List.mem_flatMap] at hu
  obtain ⟨f, -, hf⟩ := hu
  simp at hf
  rcases hf with rfl | rfl <;> rfl
theorem flat_lies {w : World} {ad : Addr} {fs : List (Int × Int)} (h : AtP w (some ad) fs) : ∀ j u, (flat fs)[j]? = some u → w.cell? (ad.add j) = some u := by
  intro j u hu
  have hj : j < fs.length * 2 := by
    rw [← flat_len]
    exact (List.getElem?_eq_some_iff.1 hu).1
  rcases h with h | ⟨b, off, e, hc⟩
  · subst h; simp at hj
  · cases e
    rw [Addr.add_lit]
    have hk : j / 2 < fs.length := by omega
    have hg := flat_get hk
    have hcc := hc _ hk
    by_cases hp : j % 2 = 0
    · have e : j / 2 * 2 = j := by omega
      rw [e] at hg hcc
      rw [hg.1] at hu
      rw [← hu]; exact hcc.1
    · have e : j / 2 * 2 + 1 = j := by omega
      have e2 : off + j / 2 * 2 + 1 = off + j := by omega
      rw [e] at hg
      rw [e2] at hcc
      rw [hg.2] at hu
      rw [← hu]; exact hcc.2
theorem ownsP_at {w : World} {base n : Nat} {v : Value} {fs : List (Int × Int)} (h : w.ownsRow base 24 2 v n (flat fs)) (hn : n ≠ 0) : ∃ g cap, v = .slice (some ⟨g, 0, none⟩) n cap ∧ base ≤ g ∧ n ≤ cap ∧ AtP w (some ⟨g, 0, none⟩) fs ∧ g < w.heap.size := by
  rcases h.2 with ⟨-, h0⟩ | ⟨g, cap, cur, hv, hg, hh, hc, hm, hs, ht⟩
  · exact absurd h0 hn
  · have hl : fs.length = n := by have := h.1; rw [flat_len] at this; omega
    have hcell : ∀ j u, (flat fs)[j]? = some u → w.cell? ⟨g, 0 + j, none⟩ = some u := fun j u hu => by
      have hj : j < n * 2 := by rw [← hl, ← flat_len]; exact (List.getElem?_eq_some_iff.1 hu).1
      rw [← ht, List.getElem?_take_of_lt hj] at hu
      rw [Nat.zero_add]
      simp [World.cell?, hh]
      simpa using hu
    refine ⟨g, cap, hv, hg, hc, Or.inr ⟨g, 0, rfl, fun k hk => ?_⟩, ?_⟩
    · have hgk := flat_get hk
      exact ⟨hcell _ _ hgk.1, by rw [Nat.add_assoc]; exact hcell _ _ hgk.2⟩
    · exact (Array.getElem?_eq_some_iff.1 hh).1

theorem own_blockP {w : World} {base n : Nat} {v : Value} {xs : List Value} (h : w.ownsRow base 24 2 v n xs) : ∀ k, v.ownBlock = some k → base ≤ k := by
  intro k hk
  rcases h.2 with ⟨rfl, -⟩ | ⟨g, cap, cur, rfl, hg, -⟩
  · cases hk
  · cases hk; exact hg
theorem Try.infoFR : (Try.prog.info? 24).map (fun i => (i.zero, i.size, i.bytes)) = some (some (.agg #[.int .i64 0, .int .i64 0]), 2, 16) := by kernel_rfl

/-- A list that was lent. -/
def LendP (base : Nat) (w : World) (g : Nat) (fs : List (Int × Int)) : Prop := base ≤ g ∧ AtP w (some ⟨g, 0, none⟩) (fs ++ [(-77, -77)])
def LentP (w : World) (len : Nat) (fs : List (Int × Int)) (e : Ending) (w' : World) : Prop :=
  ∃ g cap, e = .returned (.slice (some ⟨g, 0, none⟩) len cap) ∧ len + 1 ≤ cap ∧ LendP w.heap.size w' g fs ∧ Below w.heap.size w w'

set_option maxRecDepth 100000 in
set_option maxHeartbeats 1000000 in
theorem lentP_any (a : Option Addr) (fs : List (Int × Int)) (len cap : Nat) (w : World) (h : ArgP w a len cap fs) :
    Calls Try.prog 17 #[.slice a len cap] w (LentP w len fs) := by
  obtain ⟨hl, hr, hn, -, hat, -⟩ := h
  obtain ⟨i0, hi, hz0, hz1, hz2⟩ := info_parts Try.infoFR
  have hfin : ∀ (w2 : World) (v2 : Value), w2.ownsRow w.heap.size 24 2 v2 (len + 1) (flat fs ++ [.int .i64 (-77), .int .i64 (-77)]) → ∃ g cap, v2 = .slice (some ⟨g, 0, none⟩) (len + 1) cap ∧ len + 1 ≤ cap ∧ LendP w.heap.size w2 g fs := fun w2 v2 ho => by
    have e : flat fs ++ [Value.int .i64 (-77), .int .i64 (-77)] = flat (fs ++ [(-77, -77)]) := by rw [flat_app]; rfl
    rw [e] at ho
    obtain ⟨g, cp, hv, hg, hc, hA, -⟩ := ownsP_at ho (by omega)
    exact ⟨g, cp, hv, hc, hg, hA⟩
  cases a with
  | none =>
    obtain ⟨rfl, rfl⟩ := hn rfl
    obtain rfl : fs = [] := List.eq_nil_of_length_eq_zero hl
    go_enter Try.func17, Try.ntmps17
    go_wp2_with (first
      | (at_builtin; refine wpList_append_own_none rfl (.tmp 4) (.tmp 5) 43 rfl w.heap.size 24 i0 2 Try.underlying43 hi _ 0 [] rfl (World.ownsRow_nil _ _ _ _) rfl ?_)
      | (at_builtin; refine wpList_append_own _ rfl (.tmp 7) (.tmp 9) 43 rfl w.heap.size 24 i0 (.agg #[.int .i64 0, .int .i64 0]) 2 16 Try.underlying43 hi hz0 hz1 hz2 rfl (by decide) (.slice none 0 0) 0 [] rfl ((World.ownsRow_nil _ _ _ _)) ⟨w.heap.size, 0, none⟩ 1 1 [.int .i64 (-77), .int .i64 (-77)] rfl rfl (by intro t u ht; match t, ht with | 0, ht => (simp at ht; subst ht; simp [Addr.add]) | 1, ht => (simp at ht; subst ht; simp [Addr.add])) (by intro u hu; simp at hu; subst hu; rfl) (by unfold maxLen; omega) (by omega) (by simp) ?_; intro v2 w2 hown2 hgrow2 _; have hb2 : Below w.heap.size w w2 := ((Below.refl _ _).alloc (Nat.le_refl _) _).grown hgrow2 (by simp) (fun k h => by cases h); obtain ⟨g, cp, hv, hc, hL⟩ := hfin w2 v2 hown2; subst hv))
    go_ret
    exact ⟨g, cp, rfl, hc, hL, hb2⟩
  | some ad =>
    go_enter Try.func17, Try.ntmps17
    go_wp2_with (first
      | (at_builtin; refine wpList_append_own _ rfl (.tmp 4) (.tmp 5) 43 rfl w.heap.size 24 i0 (.agg #[.int .i64 0, .int .i64 0]) 2 16 Try.underlying43 hi hz0 hz1 hz2 rfl (by decide) (.slice none 0 0) 0 [] rfl (World.ownsRow_nil _ _ _ _) ad len cap (flat fs) rfl (by rw [flat_len, hl]) (flat_lies hat) (flat_one fs) (by unfold maxLen; omega) (by omega) (Nat.le_refl _) ?_; intro v1 w1 hown1 hgrow1 _; have hb1 : Below w.heap.size w w1 := (Below.refl _ _).grown hgrow1 (Nat.le_refl _) (fun k h => by cases h); rw [Nat.zero_add, List.nil_append] at hown1)
      | (at_builtin; refine wpList_append_own _ rfl (.tmp 7) (.tmp 9) 43 rfl w.heap.size 24 i0 (.agg #[.int .i64 0, .int .i64 0]) 2 16 Try.underlying43 hi hz0 hz1 hz2 rfl (by decide) v1 len (flat fs) rfl (hown1.alloc _) ⟨w1.heap.size, 0, none⟩ 1 1 [.int .i64 (-77), .int .i64 (-77)] rfl rfl (by intro t u ht; match t, ht with | 0, ht => (simp at ht; subst ht; simp [Addr.add]) | 1, ht => (simp at ht; subst ht; simp [Addr.add])) (by intro u hu; simp at hu; subst hu; rfl) (by unfold maxLen; omega) (by omega) (by have := hb1.size; simp; omega) ?_; intro v2 w2 hown2 hgrow2 _; have hb2 : Below w.heap.size w w2 := (hb1.alloc hb1.size _).grown hgrow2 (by have := hb1.size; simp; omega) (own_blockP hown1); obtain ⟨g, cp, hv, hc, hL⟩ := hfin w2 v2 hown2; subst hv))
    go_ret
    exact ⟨g, cp, rfl, hc, hL, hb2⟩

theorem nthN_left {xs ys : List (Int × Int)} {k : Nat} (h : k < xs.length) : nthN (xs ++ ys) k = nthN xs k ∧ nthD (xs ++ ys) k = nthD xs k := by
  unfold nthN nthD
  rw [List.getD_eq_getElem?_getD, List.getD_eq_getElem?_getD, List.getElem?_append_left h]
  exact ⟨rfl, rfl⟩
theorem LendP.cells {base : Nat} {w : World} {g : Nat} {fs : List (Int × Int)} (h : LendP base w g fs) :
    (∀ k, k < fs.length → w.cell? ⟨g, k * 2, none⟩ = some (.int .i64 (nthN fs k)) ∧ w.cell? ⟨g, k * 2 + 1, none⟩ = some (.int .i64 (nthD fs k))) ∧ w.cell? ⟨g, fs.length * 2, none⟩ = some (.int .i64 (-77)) ∧ w.cell? ⟨g, fs.length * 2 + 1, none⟩ = some (.int .i64 (-77)) := by
  obtain ⟨-, hat⟩ := h
  rcases hat with h0 | ⟨b, off, e, hc⟩
  · simp at h0
  · cases e
    refine ⟨fun k hk => ?_, ?_⟩
    · have := hc k (by simp; omega)
      rwa [(nthN_left hk).1, (nthN_left hk).2, Nat.zero_add] at this
    · have := hc fs.length (by simp)
      have e1 : nthN (fs ++ [(-77, -77)]) fs.length = -77 := by unfold nthN; simp
      have e2 : nthD (fs ++ [(-77, -77)]) fs.length = -77 := by unfold nthD; simp
      rw [e1, e2, Nat.zero_add] at this
      exact this
theorem LendP.at {base : Nat} {w : World} {g : Nat} {fs : List (Int × Int)} (h : LendP base w g fs) : AtP w (some ⟨g, 0, none⟩) fs :=
  Or.inr ⟨g, 0, rfl, fun k hk => by rw [Nat.zero_add]; exact h.cells.1 k hk⟩
theorem LendP.below {base : Nat} {w w' : World} {g : Nat} {fs : List (Int × Int)} (h : LendP base w g fs) (hb : Below w.heap.size w w') : LendP base w' g fs := ⟨h.1, h.2.below hb⟩

set_option maxRecDepth 100000 in
set_option maxHeartbeats 1000000 in
theorem keptP_any (g capg : Nat) (a : Option Addr) (fs : List (Int × Int)) (len cap base : Nat) (w : World) (h1 : LendP base w g fs) (h2 : ArgP w a len cap fs) (hcg : len + 1 ≤ capg) :
    Calls Try.prog 21 #[.slice (some ⟨g, 0, none⟩) len capg, .slice a len cap] w fun e w' => ∃ n : Nat, e = .returned (.bool true) ∧ w' = w.drewN n := by
  obtain ⟨hl, hr, hn, hz, hat, -⟩ := h2
  obtain ⟨c1, c2, c3⟩ := h1.cells
  rw [hl] at c2 c3
  have HC1 : Hid (∀ k, k < fs.length → w.cell? ⟨g, k * 2, none⟩ = some (.int .i64 (nthN fs k)) ∧ w.cell? ⟨g, k * 2 + 1, none⟩ = some (.int .i64 (nthD fs k))) := c1
  have hee : ((len : Int) != (len : Int)) = false := by simp
  clear h1 c1
  rcases hat with h | ⟨b, off, rfl, hc⟩
  · subst h
    obtain rfl : len = 0 := by simpa using hl.symm
    go_enter Try.func21, Try.ntmps21
    go_wp2
    go_loop [5] (fun i => i = .int .i64 0) (fun _ => 0)
    case atStart => exact rfl
    case round =>
      subst hrel
      go_wp2
      go_ret
      first | exact ⟨0, rfl, rfl⟩ | exact ⟨rfl, 0, rfl⟩
  · have HC : Hid (∀ k, k < fs.length → w.cell? ⟨b, off + k * 2, none⟩ = some (.int .i64 (nthN fs k)) ∧ w.cell? ⟨b, off + k * 2 + 1, none⟩ = some (.int .i64 (nthD fs k))) := hc
    clear hc
    go_enter Try.func21, Try.ntmps21
    go_wp2
    go_loopw [5] (fun i wr => ∃ k n : Nat, k ≤ len ∧ wr = w.drewN n ∧ i = .int .i64 k) (fun i _ => len - (intOf i).toNat)
    case atStart => exact ⟨0, 0, Nat.zero_le _, rfl, rfl⟩
    case round =>
      obtain ⟨k, n, hk, rfl, rfl⟩ := hrel
      by_cases hlt : k < len
      · obtain ⟨g1, g2⟩ := HC1.out k (by omega)
        obtain ⟨g3, g4⟩ := HC.out k (by omega)
        have hki : (k : Int) < (len : Int) := by omega
        generalize nthN fs k = x at *
        generalize nthD fs k = y at *
        have q1 : (x != x) = false := by simp
        have q2 : (y != y) = false := by simp
        have q3 : (x == x) = true := by simp
        have q4 : (y == y) = true := by simp
        go_wp2
        go_quiet (fail)
        go_wp2
        go_roundw
        case rel => exact ⟨k + 1, n + nq, by omega, rfl, by go_num⟩
        case measure => simp [intOf]; omega
      · have ek : len = k := by omega
        subst ek
        have hki : ¬ (len : Int) < (len : Int) := by omega
        go_wp2
        go_ret
        first | exact ⟨n, rfl, rfl⟩ | exact ⟨rfl, n, rfl⟩
end Go.Proofs.Ytgjeihdibcjjcab

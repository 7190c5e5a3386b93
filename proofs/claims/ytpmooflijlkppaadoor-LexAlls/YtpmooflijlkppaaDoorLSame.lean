/- Rows of tokens in memory, told token by token; the document's Same over equal rows. -/
import Derived.Test.YtpmooflijlkppaaDoorLNamed
namespace Go.Proofs.YtpmooflijlkppaaDoor
open Go.ChangeShapes Go.WideShapes Go.ChangeAt Go.RowKit

def nthT (ts : List Tok) (k : Nat) : Tok := ts.getD k noTok
/-- A token's four cells at a place. -/
structure Cell4 (w : World) (g o : Nat) (t : Tok) : Prop where
  c0 : w.cell? ⟨g, o, none⟩ = some (.int .u8 t.sort)
  c1 : w.cell? ⟨g, o + 1, none⟩ = some (.string (str t.text))
  c2 : w.cell? ⟨g, o + 2, none⟩ = some (.int .i64 t.num)
  c3 : w.cell? ⟨g, o + 3, none⟩ = some (.int .i64 t.place)
/-- A row of tokens lies in memory where a slice says. -/
def AtT (w : World) (a : Option Addr) (ts : List Tok) : Prop :=
  ts = [] ∨ ∃ g off, a = some ⟨g, off, none⟩ ∧ ∀ k, k < ts.length → Cell4 w g (off + k * 4) (nthT ts k)
theorem flat_get : ∀ (ts : List Tok) (k r : Nat), k < ts.length → r < 4 → (ts.flatMap tokC)[k * 4 + r]? = (tokC (nthT ts k))[r]?
  | [], k, r, h, _ => by simp at h
  | t :: ts, 0, r, _, hr => by
    rw [List.flatMap_cons, List.getElem?_append_left (by show 0 * 4 + r < 4; omega), Nat.zero_mul, Nat.zero_add]
    rfl
  | t :: ts, k + 1, r, h, hr => by
    rw [List.flatMap_cons, List.getElem?_append_right (by show 4 ≤ (k + 1) * 4 + r; omega)]
    have e : (k + 1) * 4 + r - (tokC t).length = k * 4 + r := by show (k + 1) * 4 + r - 4 = _; omega
    rw [e, flat_get ts k r (by simp at h; omega) hr]
    rfl
theorem Toks.at {base w v ts} (h : Toks base w v ts) : ∃ a cap, v = .slice a ts.length cap ∧ AtT w a ts := by
  by_cases hn : ts = []
  · obtain ⟨a, cap, he⟩ := h.shape
    exact ⟨a, cap, he, Or.inl hn⟩
  · obtain ⟨g, cap, he, hc⟩ := h.open hn
    refine ⟨_, cap, he, Or.inr ⟨g, 0, rfl, fun k hk => ?_⟩⟩
    have f : ∀ r u, r < 4 → (tokC (nthT ts k))[r]? = some u → w.cell? ⟨g, k * 4 + r, none⟩ = some u := fun r u hr hu => hc _ u (by rw [flat_get ts k r hk hr]; exact hu)
    rw [Nat.zero_add]
    exact ⟨f 0 _ (by decide) rfl, f 1 _ (by decide) rfl, f 2 _ (by decide) rfl, f 3 _ (by decide) rfl⟩
theorem Cell4.below {w w' g o t} (h : Cell4 w g o t) (hb : Below w.heap.size w w') : Cell4 w' g o t :=
  ⟨(hb.cell (block_lt_of_cell h.c0)).trans h.c0, (hb.cell (block_lt_of_cell h.c1)).trans h.c1, (hb.cell (block_lt_of_cell h.c2)).trans h.c2, (hb.cell (block_lt_of_cell h.c3)).trans h.c3⟩
theorem AtT.below {w w' a ts} (h : AtT w a ts) (hb : Below w.heap.size w w') : AtT w' a ts := by
  rcases h with h | ⟨g, off, rfl, hc⟩
  · exact Or.inl h
  · exact Or.inr ⟨g, off, rfl, fun k hk => (hc k hk).below hb⟩
theorem nthT_take {ts : List Tok} {n k : Nat} (h : k < n) : nthT (ts.take n) k = nthT ts k := by
  unfold nthT
  rw [List.getD_eq_getElem?_getD, List.getD_eq_getElem?_getD, List.getElem?_take_of_lt h]
theorem AtT.take {w a ts} (h : AtT w a ts) (n : Nat) : AtT w a (ts.take n) := by
  rcases h with h | ⟨g, off, rfl, hc⟩
  · exact Or.inl (by rw [h]; simp)
  · refine Or.inr ⟨g, off, rfl, fun k hk => ?_⟩
    rw [List.length_take] at hk
    rw [nthT_take (by omega)]
    exact hc k (by omega)

set_option maxHeartbeats 1000000 in
theorem same_any (a b : Option Addr) (n ca cb : Nat) (ts : List Tok) (w : World) (hn : ts.length = n) (ha : AtT w a ts) (hb : AtT w b ts) (hl : n ≤ 2000000) :
    Calls Tryd.prog 9 #[.slice a n ca, .slice b n cb] w fun e w' => e = .returned (.bool true) ∧ ∃ m, w' = w.drewN m := by
  have hnn : ((n : Int) != (n : Int)) = false := by simp
  have hdd : decide ((n : Int) = (n : Int)) = true := by simp
  by_cases h0 : n = 0
  · subst h0
    go_enter Tryd.func9, Tryd.ntmps9
    go_wp2
    go_loopg [5] 0 (fun gk v wr => v = .int .i64 0 ∧ wr = w)
    case atStart => exact ⟨rfl, rfl⟩
    case round =>
      obtain ⟨rfl, rfl⟩ := hrel
      go_wp2
      go_ret
      exact ⟨rfl, 0, rfl⟩
  · rcases ha with ha | ⟨ga, oa, rfl, hca⟩
    · subst ha; exact absurd hn.symm h0
    rcases hb with hb | ⟨gb, ob, rfl, hcb⟩
    · subst hb; exact absurd hn.symm h0
    have HA := hidden hca
    have HB := hidden hcb
    clear hca hcb
    go_enter Tryd.func9, Tryd.ntmps9
    go_wp2
    go_loopg [5] n (fun gk v wr => ∃ (k q : Nat), k ≤ n ∧ gk = n - k ∧ v = .int .i64 k ∧ wr = w.drewN q)
    case atStart => exact ⟨0, 0, Nat.zero_le _, rfl, rfl, rfl⟩
    case round =>
      obtain ⟨k, q, hk, rfl, rfl, rfl⟩ := hrel
      by_cases hlt : k < n
      · have hki : (k : Int) < (n : Int) := by omega
        obtain ⟨a0, a1, a2, a3⟩ := HA.out k (by omega)
        obtain ⟨b0, b1, b2, b3⟩ := HB.out k (by omega)
        generalize nthT ts k = t at *
        obtain ⟨so, tx, nm, pl⟩ := t
        simp only at a0 a1 a2 a3 b0 b1 b2 b3
        generalize str tx = S at *
        have q1 : (so != so) = false := by simp
        have q2 : (nm != nm) = false := by simp
        have q3 : (pl != pl) = false := by simp
        have q4 : (so == so) = true := by simp
        have q5 : (nm == nm) = true := by simp
        have q6 : (pl == pl) = true := by simp
        have q7 : (S.toList == S.toList) = true := by simp
        go_wp2
        go_quiet (fail)
        go_wp2
        go_roundg (n - (k + 1))
        case measure => omega
        case rel => exact ⟨k + 1, _, by omega, rfl, by go_num, rfl⟩
      · have ek : k = n := by omega
        subst ek
        have hki : ¬ ((k : Int) < (k : Int)) := by omega
        go_wp2
        go_ret
        exact ⟨rfl, q, rfl⟩
end Go.Proofs.YtpmooflijlkppaaDoor

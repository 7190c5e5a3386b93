/- Texts of one chain, laid one behind the other. -/
import Derived.Test.YthgblljokonejaaGreatDoorChain29
/- What All makes of a text that is read, told token by token. -/
namespace Go.Proofs.YthgblljokonejaaGreatDoor
open Go.ChangeShapes Go.WideShapes Go.ChangeAt Go.RowKit

/-- What All makes of a text that is read, told token by token. -/
def ReadAt (W : World) (ts : List Tok) (n : Nat) (e : Ending) (w' : World) : Prop :=
  ∃ g off cap, e = .returned (.tuple #[.slice (some ⟨g, off, none⟩) n cap, .agg #[.int .i64 0, .int .i64 0]]) ∧ AtT w' (some ⟨g, off, none⟩) ts ∧ n ≤ cap ∧ Below W.heap.size W w'
theorem all_at (l : List UInt8) (ts : List Tok) (n : Nat) (ht : textG l = ⟨ts, 0, 0⟩) (hn : ts.length = n) (h0 : ts ≠ []) (W : World) (hW : Env W) : Calls Tryz.prog 15 #[.string (str l)] W (ReadAt W ts n) :=
  (all_any l W hW).mono fun _ w' ⟨v, he, hk, hb⟩ => by
    rw [ht] at he hk
    obtain ⟨a, cap, he', hat⟩ := hk.at
    obtain ⟨g, cap', he2, -⟩ := hk.open h0
    rw [he2] at he'
    cases he'
    rw [he2] at he hk
    subst hn
    have hroom : ts.length ≤ cap := by
      rcases hk.2 with ⟨h1, -⟩ | ⟨g', c', cur, hv, -, -, hc, -⟩
      · cases h1
      · cases hv; exact hc
    exact ⟨g, 0, cap, he, hat, hroom, hb⟩
theorem nthT_app {ts us : List Tok} {k : Nat} (h : k < ts.length) : nthT (ts ++ us) k = nthT ts k := by
  unfold nthT
  rw [List.getD_eq_getElem?_getD, List.getD_eq_getElem?_getD, List.getElem?_append_left h]
theorem AtT.pre {w a ts us} (h : AtT w a (ts ++ us)) : AtT w a ts := by
  rcases h with h | ⟨g, off, rfl, hc⟩
  · exact Or.inl (List.append_eq_nil_iff.1 h).1
  · refine Or.inr ⟨g, off, rfl, fun k hk => ?_⟩
    rw [← nthT_app hk (us := us)]
    exact hc k (by rw [List.length_append]; omega)
theorem AtT.at {w g off ts} (h : AtT w (some ⟨g, off, none⟩) ts) {k : Nat} (hk : k < ts.length) : Cell4 w g (off + k * 4) (nthT ts k) := by
  rcases h with h | ⟨g', off', e, hc⟩
  · subst h; simp at hk
  · cases e
    exact hc k hk
end Go.Proofs.YthgblljokonejaaGreatDoor

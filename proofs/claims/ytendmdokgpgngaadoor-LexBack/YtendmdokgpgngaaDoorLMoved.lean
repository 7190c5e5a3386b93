/- Tokens further on in a text (moved). -/
import Derived.Test.YtendmdokgpgngaaDoorLSame
import Derived.Test.YtendmdokgpgngaaDoorLJoinM
import Derived.Test.YtendmdokgpgngaaDoorLNames
namespace Go.Proofs.YtendmdokgpgngaaDoor
open Go.ChangeShapes Go.WideShapes Go.ChangeAt Go.RowKit

theorem Toks.snoc {base w v ts t} (h : w.ownsRow base 33 4 v (ts.length + 1) (ts.flatMap tokC ++ tokC t)) : Toks base w v (ts ++ [t]) := by
  unfold Toks
  rw [List.flatMap_append, List.length_append]
  simpa [List.flatMap] using h
theorem drop_nthT : ∀ (ts : List Tok) (k : Nat), k < ts.length → ts.take (k + 1) = ts.take k ++ [nthT ts k]
  | [], k, h => by simp at h
  | t :: ts, 0, _ => rfl
  | t :: ts, k + 1, h => by
    rw [List.take_succ_cons, List.take_succ_cons, drop_nthT ts k (by simp at h; omega)]
    rfl
set_option maxRecDepth 100000 in
set_option maxHeartbeats 2000000 in
theorem moved_any (a : Option Addr) (n cap d : Nat) (ts : List Tok) (w : World) (hn : ts.length = n) (ha : AtT w a ts) (hl : n ≤ 2000000) (hd : d ≤ 1048577) (hpl : ∀ k, k < n → 0 ≤ (nthT ts k).place ∧ (nthT ts k).place ≤ 1048577) :
    Calls Tryd.prog 19 #[.slice a n cap, .int .i64 (d : Int)] w fun e w' => ∃ v, e = .returned v ∧ Toks w.heap.size w' v (ts.map (Tok.by d)) ∧ Below w.heap.size w w' := by
  have HA := hidden ha
  have HP := hidden hpl
  have HN := hidden hn
  obtain ⟨i0, hi, hz0, hz1, hz2⟩ := info_parts Tryd.infoTK
  have HI := hidden hi
  have HI0 := hidden hz0
  have HI1 := hidden hz1
  have HI2 := hidden hz2
  clear hi hz0 hz1 hz2 ha hpl hn
  go_enter Tryd.func19, Tryd.ntmps19
  go_wp2
  go_loopg [5, 6] n (fun gk v i wr => ∃ k, k ≤ n ∧ gk = n - k ∧ i = .int .i64 k ∧ Toks w.heap.size wr v ((ts.take k).map (Tok.by d)) ∧ Below w.heap.size w wr)
  case atStart => exact ⟨0, Nat.zero_le _, rfl, rfl, World.ownsRow_nil _ _ _ _, Below.refl _ _⟩
  case round =>
    obtain ⟨k, hk, rfl, rfl, ht, hb⟩ := hrel
    have HT := hidden ht
    have HB := hidden hb
    clear ht hb
    by_cases hlt : k < n
    · have hki : (k : Int) < (n : Int) := by omega
      rcases HA.out.below HB.out with h0 | ⟨g, off, rfl, hc⟩
      · rw [h0] at HN; exact absurd HN.out (by simp; omega)
      obtain ⟨a0, a1, a2, a3⟩ := hc k (by rw [HN.out]; exact hlt)
      have HD : Hid ((ts.take (k + 1)).map (Tok.by d) = (ts.take k).map (Tok.by d) ++ [Tok.by d (nthT ts k)]) := by show _ = _; rw [drop_nthT ts k (by rw [HN.out]; exact hlt), List.map_append]; rfl
      have hp := HP.out k hlt
      have HL : Hid (((ts.take k).map (Tok.by d)).length = k) := by show _ = _; rw [List.length_map, List.length_take, HN.out]; omega
      clear hc
      generalize nthT ts k = t at *
      obtain ⟨so, tx, nm, pl⟩ := t
      simp only at a0 a1 a2 a3 hp
      have wr1 : wrap64 (pl + (d : Int)) = pl + (d : Int) := by unfold wrap64; omega
      obtain ⟨p2, hp2⟩ : ∃ p2, pl + (d : Int) = p2 := ⟨_, rfl⟩
      rw [hp2] at wr1
      have hp3 : 0 ≤ p2 ∧ p2 ≤ 2097154 := by omega
      have HT2 : Hid (Tok.by d ⟨so, tx, nm, pl⟩ = ⟨so, tx, nm, p2⟩) := by show _ = _; unfold Tok.by; rw [hp2]
      go_wp2_with (at_builtin; refine wpList_append_own _ rfl _ _ 22 rfl w.heap.size 33 i0 (.agg #[.int .u8 0, .string ⟨#[]⟩, .int .i64 0, .int .i64 0]) 4 40 Tryd.underlying22 HI.out HI0.out HI1.out HI2.out rfl (by decide) _ ((ts.take k).map (Tok.by d)).length (((ts.take k).map (Tok.by d)).flatMap tokC) rfl (HT.out.below (below_two wr _ _)) ⟨wr.heap.size + 1, 0, none⟩ 1 1 (tokC ⟨so, tx, nm, p2⟩) rfl rfl (tok_news wr _ _ _ _ _ _) (tok_one _) (by rw [HL.out]; unfold maxLen; omega) (by rw [HL.out]; omega) (by have h1 := HB.out.size; simp; omega) ?_; intro v' w8 hown hgrow _; have S8 : Hid (Toks w.heap.size w8 v' ((ts.take (k + 1)).map (Tok.by d))) := (by show Toks _ _ _ _; rw [HD.out, HT2.out]; exact Toks.snoc hown); have B8 : Hid (Below w.heap.size w w8) := below_grownO (HB.out.trans ((below_two wr _ _).mono HB.out.size)) hgrow (fun j e => by rcases Nat.lt_or_ge j w.heap.size with h1 | h1; exact absurd e (HT.out.ne h1); exact h1) (by have h1 := HB.out.size; simp; omega); clear hown hgrow)
      go_roundg (n - (k + 1))
      case measure => omega
      case rel => exact ⟨k + 1, by omega, rfl, by go_num, S8.out, B8.out⟩
    · have ek : k = n := by omega
      subst ek
      have hki : ¬ ((k : Int) < (k : Int)) := by omega
      have HX : Hid (Toks w.heap.size wr u5 (ts.map (Tok.by d))) := by
        have := HT.out
        rw [List.take_of_length_le (by rw [HN.out]; exact Nat.le_refl _)] at this
        exact this
      clear HT
      go_wp2
      go_ret
      exact ⟨_, rfl, HX.out, HB.out⟩
end Go.Proofs.YtendmdokgpgngaaDoor

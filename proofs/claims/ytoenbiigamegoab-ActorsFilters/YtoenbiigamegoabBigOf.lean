/- The document's whole numbers of any length: Of (pianolaref00): an int as one. -/
import Derived.Test.YtoenbiigamegoabBigWh
namespace Go.Proofs.Ytoenbiigamegoab
open Go.ChangeShapes Go.WideShapes Go.ChangeAt Go.RowKit

/-- Memory while an int's digits are gathered: the result's place, the number that grows, and what its digits own. -/
structure OfSt (w wr : World) (neg : Bool) (v : Value) (i : Nat) (os : List Int) : Prop where
  c10 : wr.cell? ⟨w.heap.size, 0, none⟩ = some (.bool false)
  c11 : wr.cell? ⟨w.heap.size, 1, none⟩ = some (.slice none 0 0)
  f10 : wr.frozen? ⟨w.heap.size, 0, none⟩ = false
  f11 : wr.frozen? ⟨w.heap.size, 1, none⟩ = false
  c20 : wr.cell? ⟨w.heap.size + 1, 0, none⟩ = some (.bool neg)
  c21 : wr.cell? ⟨w.heap.size + 1, 1, none⟩ = some v
  f21 : wr.frozen? ⟨w.heap.size + 1, 1, none⟩ = false
  own : wr.ownsRow (w.heap.size + 2) 3 1 v i (os.map (Value.int .i64))
  size : w.heap.size + 2 ≤ wr.heap.size
  old : Below w.heap.size w wr

theorem ofSt_first (w : World) (neg : Bool) (t1 t2 : TypeId) : OfSt w ((w.alloc (.cells #[.bool false, .slice none 0 0] t1)).alloc (.cells #[.bool neg, .slice none 0 0] t2)) neg (.slice none 0 0) 0 [] := by
  have s1 : (w.alloc (.cells #[.bool false, .slice none 0 0] t1)).heap.size = w.heap.size + 1 := by simp
  have p1 := pair_new (V := w) (x := .bool false) (y := .slice none 0 0) (t := t1) rfl
  have p2 := pair_new (V := w.alloc (.cells #[.bool false, .slice none 0 0] t1)) (x := .bool neg) (y := .slice none 0 0) (t := t2) s1.symm
  have hf : ∀ k, ((w.alloc (.cells #[.bool false, .slice none 0 0] t1)).alloc (.cells #[.bool neg, .slice none 0 0] t2)).frozen? ⟨w.heap.size, k, none⟩ = (w.alloc (.cells #[.bool false, .slice none 0 0] t1)).frozen? ⟨w.heap.size, k, none⟩ :=
    fun k => ((Below.refl _ (w.alloc (.cells #[.bool false, .slice none 0 0] t1))).alloc (Nat.le_refl _) _).frozen (p := ⟨w.heap.size, k, none⟩) (by rw [s1]; exact Nat.lt_succ_self _)
  refine ⟨?_, ?_, ?_, ?_, p2.1, p2.2.1, p2.2.2.2, World.ownsRow_nil _ _ _ _, by simp, ((Below.refl _ _).alloc (Nat.le_refl _) _).alloc (by rw [s1]; omega) _⟩
  · rw [cell_old (by rw [s1]; omega)]; exact p1.1
  · rw [cell_old (by rw [s1]; omega)]; exact p1.2.1
  · rw [hf]; exact p1.2.2.1
  · rw [hf]; exact p1.2.2.2

theorem own_block2 {w : World} {base n : Nat} {v : Value} {xs : List Value} (h : w.ownsRow base 3 1 v n xs) : ∀ k, v.ownBlock = some k → base ≤ k := by
  intro k hk
  rcases h.2 with ⟨hv, -⟩ | ⟨g, cap, cur, hv, hg, -⟩
  · rw [hv] at hk; cases hk
  · rw [hv] at hk; cases hk; exact hg

/-- Behind the append, ahead of the store. -/
theorem OfSt.mid {w wr w1 : World} {neg : Bool} {v : Value} {i : Nat} {os : List Int} {s : Int} (h : OfSt w wr neg v i os) (hgrow : (wr.alloc (.cells #[.int .i64 s] 3)).grownBy w1 v.ownBlock) :
    Below (w.heap.size + 2) wr w1 :=
  ((Below.refl _ _).alloc h.size _).grown hgrow (by have := h.size; simp; omega) (own_block2 h.own)
theorem OfSt.step {w wr w1 : World} {neg : Bool} {v v' : Value} {i : Nat} {os : List Int} {s : Int} (h : OfSt w wr neg v i os) (hown' : w1.ownsRow (w.heap.size + 2) 3 1 v' (i + 1) (os.map (Value.int .i64) ++ [.int .i64 s]))
    (hgrow : (wr.alloc (.cells #[.int .i64 s] 3)).grownBy w1 v.ownBlock) : OfSt w (w1.setCell ⟨w.heap.size + 1, 1, none⟩ v') neg v' (i + 1) (os ++ [s]) := by
  have m := h.mid hgrow
  have k : ∀ b o, b < w.heap.size + 2 → w1.cell? ⟨b, o, none⟩ = wr.cell? ⟨b, o, none⟩ := fun b o hb => m.cell (p := ⟨b, o, none⟩) hb
  have f : ∀ b o, b < w.heap.size + 2 → w1.frozen? ⟨b, o, none⟩ = wr.frozen? ⟨b, o, none⟩ := fun b o hb => m.frozen (p := ⟨b, o, none⟩) hb
  have fs : ∀ p : Addr, (w1.setCell ⟨w.heap.size + 1, 1, none⟩ v').frozen? p = w1.frozen? p := fun p => World.frozen?_setCell _ _ _ _
  refine ⟨?_, ?_, ?_, ?_, ?_, ?_, ?_, ?_, ?_, ?_⟩
  · rw [World.cell?_setCell_other _ _ _ _ (by simp), k _ _ (by omega)]; exact h.c10
  · rw [World.cell?_setCell_other _ _ _ _ (by simp), k _ _ (by omega)]; exact h.c11
  · rw [fs, f _ _ (by omega)]; exact h.f10
  · rw [fs, f _ _ (by omega)]; exact h.f11
  · rw [World.cell?_setCell_other _ _ _ _ (by simp), k _ _ (by omega)]; exact h.c20
  · exact World.cell?_setCell_same _ _ _ (by rw [k _ _ (by omega)]; exact h.c21)
  · rw [fs, f _ _ (by omega)]; exact h.f21
  · exact ownsRow_setCell_below (by rw [List.map_append]; exact hown') (by simp) _
  · have h1 := m.size
    have h2 := h.size
    simp [World.setCell]
    omega
  · exact (h.old.trans (m.mono (by omega))).setCell (by simp) _

/-- The end: the number is copied into the result's place. -/
theorem OfSt.done {w wr : World} {neg : Bool} {a : Option Addr} {cap i : Nat} {os : List Int} {n : Int} (h : OfSt w wr neg (.slice a i cap) i os) (hl : os.length = i) (hat : At wr a os) (hno : a = none → i = 0 ∧ cap = 0) (hr : i ≤ cap) (h3 : i ≤ 3)
    (hd : Dig os) (hn : Norm os) (hw : n = if neg then -val os else val os) (hs : neg = true → os ≠ []) :
    MadeWh w n 3 (.returned (.agg #[.bool neg, .slice a i cap])) ((wr.setCell ⟨w.heap.size, 0, none⟩ (.bool neg)).setCell ⟨w.heap.size, 1, none⟩ (.slice a i cap)) := by
  have k1 : (wr.setCell ⟨w.heap.size, 0, none⟩ (.bool neg)).cell? ⟨w.heap.size, 1, none⟩ = some (.slice none 0 0) := by
    rw [World.cell?_setCell_other _ _ _ _ (by simp)]; exact h.c11
  have hat2 := (hat.store (v := .bool neg) h.c10 (fun n h => by cases h)).store (v := .slice a i cap) k1 (fun n h => by cases h)
  exact ⟨neg, a, i, cap, os, rfl, ⟨⟨hl, hat2, hno, hr, by omega, hd⟩, hn, hw, hs⟩, (h.old.setCell (by simp) _).setCell (by simp) _, h3⟩

theorem owns_slice {w : World} {base n : Nat} {v : Value} {xs : List Value} (h : w.ownsRow base 3 1 v n xs) : ∃ a cap, v = .slice a n cap := by
  rcases h.2 with ⟨hv, hn⟩ | ⟨g, cap, cur, hv, -⟩
  · exact ⟨none, 0, by rw [hv, hn]⟩
  · exact ⟨_, cap, hv⟩

set_option maxRecDepth 100000 in
set_option maxHeartbeats 1000000 in
theorem of_pos (n : Nat) (w : World) (hn : n ≤ 9223372036854775807) :
    Calls Try.prog 14 #[.int .i64 n] w (MadeWh w n 3) := by
  obtain ⟨i0, hi, hz0, hz1, hz2⟩ := info_parts Try.info3
  have hlen := ofL_len (n := n) (by omega)
  have HO := ofSt_first w false 38 38
  have hsg : ¬ (n : Int) < 0 := by omega
  go_enter Try.func14, Try.ntmps14
  go_wp2
  go_loopg [0, 4] n (fun gk t _ wr => ∃ (i : Nat) (a : Option Addr) (cap : Nat) (os : List Int), gk ≤ n ∧ t = .int .i64 gk ∧ os.length = i ∧ os ++ ofL gk = ofL n ∧ OfSt w wr false (.slice a i cap) i os)
  case atStart => exact ⟨0, none, 0, [], Nat.le_refl _, rfl, rfl, rfl, HO⟩
  case round =>
    obtain ⟨i, a, cap, os, hmn, rfl, hos, heq, hst⟩ := hrel
    clear HO hsg
    have HEQ : Hid (os ++ ofL gk = ofL n) := heq
    have HOS : Hid (os.length = i) := hos
    have HST : Hid (OfSt w wr false (.slice a i cap) i os) := hst
    have hi3 : i ≤ 3 := by have := congrArg List.length heq; rw [List.length_append, hos] at this; omega
    have c20 := hst.c20
    have c21 := hst.c21
    have f21 := hst.f21
    have c10 := hst.c10
    have c11 := hst.c11
    have f10 := hst.f10
    have f11 := hst.f11
    have hown := hst.own
    have hsz := hst.size
    clear heq hos hst
    by_cases h0 : gk = 0
    · subst h0
      obtain ⟨a', cap', hv, hl', hat', hcp', hn', -⟩ := owns_at hown
      cases hv
      clear hown
      go_wp2
      have e := HEQ.out
      rw [ofL_zero, List.append_nil] at e
      obtain ⟨v1, v2, v3⟩ := ofL_all n
      exact bodyPost_ret (v := .agg #[.bool false, .slice a i cap]) (by simp [results, Try.results14, go_sem, c10, c11]) rfl (HST.out.done HOS.out hat' hn' hcp' hi3 (by rw [e]; exact v2) (by rw [e]; exact v3) (by rw [e]; simp [v1]) (fun h => by cases h))
    · have hm0 : (gk == (0 : Int)) = false := by simp; omega
      have hmd : gk / 1073741824 < gk := by omega
      have HL : Hid (ofL gk = ((gk % 1073741824 : Nat) : Int) :: ofL (gk / 1073741824)) := ofL_pos h0
      have hd0 : ¬ ((gk : Int) % 1073741824 < 0) := by omega
      go_wp2_with (at_builtin; refine wpList_append_own _ rfl (.tmp 17) (.tmp 19) 31 rfl (w.heap.size + 2) 3 i0 (.int .i64 0) 1 8 Try.underlying31 hi hz0 hz1 hz2 rfl (by decide) (.slice a i cap) i _ rfl (hown.alloc _) ⟨wr.heap.size, 0, none⟩ 1 1 [.int .i64 _] rfl rfl (one_new _ _ _) (one_cell _) (by unfold maxLen; omega) (by omega) (by simp; omega) ?_; intro v' w1 hown' hgrow _; obtain ⟨a', cap', hv'⟩ := owns_slice hown'; subst hv'; have hmid := HST.out.mid hgrow; have k21 : w1.cell? ⟨w.heap.size + 1, 1, none⟩ = some (.slice a i cap) := (hmid.cell (p := ⟨w.heap.size + 1, 1, none⟩) (Nat.lt_succ_self _)).trans HST.out.c21; have g21 : w1.frozen? ⟨w.heap.size + 1, 1, none⟩ = false := (hmid.frozen (p := ⟨w.heap.size + 1, 1, none⟩) (Nat.lt_succ_self _)).trans HST.out.f21)
      go_roundg (gk / 1073741824)
      case measure => exact hmd
      case rel => exact ⟨i + 1, a', cap', os ++ [_], by omega, rfl, by simp [HOS.out], by rw [List.append_assoc]; show os ++ (_ :: ofL (gk / 1073741824)) = _; rw [← HEQ.out, HL.out]; rfl, HST.out.step hown' hgrow⟩

set_option maxRecDepth 100000 in
set_option maxHeartbeats 1000000 in
theorem of_neg (n : Nat) (w : World) (hn : n ≤ 9223372036854775808) (hpos : 0 < n) :
    Calls Try.prog 14 #[.int .i64 (-(n : Int))] w (MadeWh w (-(n : Int)) 3) := by
  obtain ⟨i0, hi, hz0, hz1, hz2⟩ := info_parts Try.info3
  have hlen := ofL_len (n := n) (by omega)
  have HO := ofSt_first w true 38 38
  have hsg : ((-(n : Int)) : Int) < 0 := by omega
  go_enter Try.func14, Try.ntmps14
  go_wp2
  go_loopg [0, 4] n (fun gk t _ wr => ∃ (i : Nat) (a : Option Addr) (cap : Nat) (os : List Int), gk ≤ n ∧ t = .int .i64 (-(gk : Int)) ∧ os.length = i ∧ os ++ ofL gk = ofL n ∧ OfSt w wr true (.slice a i cap) i os)
  case atStart => exact ⟨0, none, 0, [], Nat.le_refl _, rfl, rfl, rfl, HO⟩
  case round =>
    obtain ⟨i, a, cap, os, hmn, rfl, hos, heq, hst⟩ := hrel
    clear HO hsg
    have HEQ : Hid (os ++ ofL gk = ofL n) := heq
    have HOS : Hid (os.length = i) := hos
    have HST : Hid (OfSt w wr true (.slice a i cap) i os) := hst
    have hi3 : i ≤ 3 := by have := congrArg List.length heq; rw [List.length_append, hos] at this; omega
    have c20 := hst.c20
    have c21 := hst.c21
    have f21 := hst.f21
    have c10 := hst.c10
    have c11 := hst.c11
    have f10 := hst.f10
    have f11 := hst.f11
    have hown := hst.own
    have hsz := hst.size
    clear heq hos hst
    by_cases h0 : gk = 0
    · subst h0
      obtain ⟨a', cap', hv, hl', hat', hcp', hn', -⟩ := owns_at hown
      cases hv
      clear hown
      go_wp2
      have e := HEQ.out
      rw [ofL_zero, List.append_nil] at e
      obtain ⟨v1, v2, v3⟩ := ofL_all n
      exact bodyPost_ret (v := .agg #[.bool true, .slice a i cap]) (by simp [results, Try.results14, go_sem, c10, c11]) rfl (HST.out.done HOS.out hat' hn' hcp' hi3 (by rw [e]; exact v2) (by rw [e]; exact v3) (by rw [e]; simp [v1]) (fun _ e2 => by rw [e2] at e; rw [← e] at v1; simp [val] at v1; omega))
    · have hm0 : ((-(gk : Int)) == (0 : Int)) = false := by simp; omega
      have hmd : gk / 1073741824 < gk := by omega
      have HL : Hid (ofL gk = ((gk % 1073741824 : Nat) : Int) :: ofL (gk / 1073741824)) := ofL_pos h0
      have ht1 : (-(gk : Int)).tmod 1073741824 = -((gk % 1073741824 : Nat) : Int) := by rw [Int.neg_tmod]; rfl
      have ht2 : (-(gk : Int)).tdiv 1073741824 = -((gk / 1073741824 : Nat) : Int) := by rw [Int.neg_tdiv]; rfl
      have hq1 : gk / 1073741824 ≤ 9223372036854775807 := by omega
      have hr1 : gk % 1073741824 < 1073741824 := by omega
      by_cases hr0 : gk % 1073741824 = 0
      · have hz : -((gk : Int) % 1073741824) = ((gk % 1073741824 : Nat) : Int) := by omega
        have HZ : Hid (-((gk : Int) % 1073741824) = ((gk % 1073741824 : Nat) : Int)) := hz
        have hd0 : ¬ (0 < (gk : Int) % 1073741824) := by omega
        clear hz hr0
        go_wp2_with (at_builtin; refine wpList_append_own _ rfl (.tmp 17) (.tmp 19) 31 rfl (w.heap.size + 2) 3 i0 (.int .i64 0) 1 8 Try.underlying31 hi hz0 hz1 hz2 rfl (by decide) (.slice a i cap) i _ rfl (hown.alloc _) ⟨wr.heap.size, 0, none⟩ 1 1 [.int .i64 _] rfl rfl (one_new _ _ _) (one_cell _) (by unfold maxLen; omega) (by omega) (by simp; omega) ?_; intro v' w1 hown' hgrow _; obtain ⟨a', cap', hv'⟩ := owns_slice hown'; subst hv'; have hmid := HST.out.mid hgrow; have k21 : w1.cell? ⟨w.heap.size + 1, 1, none⟩ = some (.slice a i cap) := (hmid.cell (p := ⟨w.heap.size + 1, 1, none⟩) (Nat.lt_succ_self _)).trans HST.out.c21; have g21 : w1.frozen? ⟨w.heap.size + 1, 1, none⟩ = false := (hmid.frozen (p := ⟨w.heap.size + 1, 1, none⟩) (Nat.lt_succ_self _)).trans HST.out.f21)
        go_roundg (gk / 1073741824)
        case measure => exact hmd
        case rel => exact ⟨i + 1, a', cap', os ++ [_], by omega, by first | rfl | go_num, by simp [HOS.out], by rw [List.append_assoc]; show os ++ (-((gk : Int) % 1073741824) :: ofL (gk / 1073741824)) = _; rw [← HEQ.out, HL.out, HZ.out], HST.out.step hown' hgrow⟩
      · have hd0 : -((gk % 1073741824 : Nat) : Int) < 0 := by omega
        go_wp2_with (at_builtin; refine wpList_append_own _ rfl (.tmp 17) (.tmp 19) 31 rfl (w.heap.size + 2) 3 i0 (.int .i64 0) 1 8 Try.underlying31 hi hz0 hz1 hz2 rfl (by decide) (.slice a i cap) i _ rfl (hown.alloc _) ⟨wr.heap.size, 0, none⟩ 1 1 [.int .i64 _] rfl rfl (one_new _ _ _) (one_cell _) (by unfold maxLen; omega) (by omega) (by simp; omega) ?_; intro v' w1 hown' hgrow _; obtain ⟨a', cap', hv'⟩ := owns_slice hown'; subst hv'; have hmid := HST.out.mid hgrow; have k21 : w1.cell? ⟨w.heap.size + 1, 1, none⟩ = some (.slice a i cap) := (hmid.cell (p := ⟨w.heap.size + 1, 1, none⟩) (Nat.lt_succ_self _)).trans HST.out.c21; have g21 : w1.frozen? ⟨w.heap.size + 1, 1, none⟩ = false := (hmid.frozen (p := ⟨w.heap.size + 1, 1, none⟩) (Nat.lt_succ_self _)).trans HST.out.f21)
        go_roundg (gk / 1073741824)
        case measure => exact hmd
        case rel => exact ⟨i + 1, a', cap', os ++ [_], by omega, by first | rfl | go_num, by simp [HOS.out], by rw [List.append_assoc]; show os ++ (_ :: ofL (gk / 1073741824)) = _; rw [← HEQ.out, HL.out]; rfl, HST.out.step hown' hgrow⟩

/-- An int as a number of any length. -/
theorem of_any (n : Int) (w : World) (hn : -9223372036854775808 ≤ n ∧ n ≤ 9223372036854775807) :
    Calls Try.prog 14 #[.int .i64 n] w (MadeWh w n 3) := by
  by_cases h : n < 0
  · have := of_neg n.natAbs w (by omega) (by omega)
    rwa [show -((n.natAbs : Nat) : Int) = n by omega] at this
  · have := of_pos n.natAbs w (by omega)
    rwa [show ((n.natAbs : Nat) : Int) = n by omega] at this
end Go.Proofs.Ytoenbiigamegoab

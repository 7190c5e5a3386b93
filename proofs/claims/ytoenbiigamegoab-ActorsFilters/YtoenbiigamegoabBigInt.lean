/- The document's whole numbers of any length: Int (pianolaref00): one as an int, if it fits. -/
import Derived.Test.YtoenbiigamegoabBigOf
namespace Go.Proofs.Ytoenbiigamegoab
open Go.ChangeShapes Go.WideShapes Go.ChangeAt Go.RowKit

/-- One boxed argument, behind calls that turned nothing old. -/
structure Box1 (w w' : World) (x y : Value) : Prop where
  c0 : w'.cell? ⟨w.heap.size, 0, none⟩ = some x
  c1 : w'.cell? ⟨w.heap.size, 1, none⟩ = some y
  size : w.heap.size < w'.heap.size
  old : Below w.heap.size w w'
theorem box1_first (w : World) (x y : Value) (t : TypeId) : Box1 w (w.alloc (.cells #[x, y] t)) x y := by
  have p := pair_new (V := w) (x := x) (y := y) (t := t) rfl
  exact ⟨p.1, p.2.1, by simp, (Below.refl _ _).alloc (Nat.le_refl _) _⟩
theorem Box1.later {w w1 w2 : World} {x y : Value} (h : Box1 w w1 x y) (hb : Below w1.heap.size w1 w2) : Box1 w w2 x y :=
  ⟨(hb.cell (p := ⟨w.heap.size, 0, none⟩) h.size).trans h.c0, (hb.cell (p := ⟨w.heap.size, 1, none⟩) h.size).trans h.c1, Nat.lt_of_lt_of_le h.size hb.size, h.old.trans (hb.mono h.old.size)⟩
theorem Box1.drew {w w1 : World} {x y : Value} (h : Box1 w w1 x y) : Box1 w w1.drew x y := h.later (Below.refl _ _).drew

def ToInt (w : World) (x : Int) (e : Ending) (w' : World) : Prop := e = .returned (.tuple #[.int .i64 (fitV x), .bool (fitB x)]) ∧ Below w.heap.size w w'

theorem val_drop_le {ds : List Int} (h : Dig ds) (k : Nat) : val (ds.drop k) ≤ val ds := by
  induction k generalizing ds with
  | zero => exact Int.le_refl _
  | succ k ih =>
    cases ds with
    | nil => exact Int.le_refl _
    | cons x xs =>
      have h1 := ih h.tail
      have h2 := h.head
      have h3 := val_nonneg h.tail
      simp only [List.drop_succ_cons, val]
      omega
theorem Dig.drop {ds : List Int} (h : Dig ds) (k : Nat) : Dig (ds.drop k) := fun x hx => h x (List.mem_of_mem_drop hx)

set_option maxRecDepth 100000 in
set_option maxHeartbeats 1000000 in
theorem int_fits (neg : Bool) (a : Option Addr) (len cap : Nat) (ds : List Int) (x : Int) (w : World) (h : Wh w neg a len cap ds x) (hf : -9223372036854775808 ≤ x ∧ x ≤ 9223372036854775807) :
    Calls Try.prog 17 #[.agg #[.bool neg, .slice a len cap]] w (ToInt w x) := by
  have HX : Hid (∀ W, Below w.heap.size w W → Wh W neg a len cap ds x) := fun W hb => h.below hb
  have HO1 : Hid (∀ W, Calls Try.prog 14 #[.int .i64 (-9223372036854775808)] W (MadeWh W (-9223372036854775808) 3)) := fun W => of_any _ W (by decide)
  have HO2 : Hid (∀ W, Calls Try.prog 14 #[.int .i64 9223372036854775807] W (MadeWh W 9223372036854775807 3)) := fun W => of_any _ W (by decide)
  obtain ⟨k1, hk1, hk1'⟩ : ∃ k : Int, cmpI x (-9223372036854775808) = k ∧ ¬ k < 0 := by
    refine ⟨_, rfl, ?_⟩
    rcases Int.lt_trichotomy x (-9223372036854775808) with k | k | k
    · omega
    · rw [cmpI_eq k]; decide
    · rw [cmpI_gt k]; decide
  obtain ⟨k2, hk2, hk2'⟩ : ∃ k : Int, cmpI x 9223372036854775807 = k ∧ ¬ 0 < k := by
    refine ⟨_, rfl, ?_⟩
    rcases Int.lt_trichotomy x 9223372036854775807 with k | k | k
    · rw [cmpI_lt k]; decide
    · rw [cmpI_eq k]; decide
    · omega
  have HC1 : Hid (∀ W n' a' l' c' d', Wh W neg a len cap ds x → Wh W n' a' l' c' d' (-9223372036854775808) → Calls Try.prog 30 #[.agg #[.bool neg, .slice a len cap], .agg #[.bool n', .slice a' l' c']] W (fun e w' => e = .returned (.int .i64 k1) ∧ Below W.heap.size W w')) :=
    fun W n' a' l' c' d' g1 g2 => (cmp_any neg n' a a' len l' cap c' ds d' x _ W g1 g2).mono (fun e w' ⟨q1, q2⟩ => ⟨by rw [q1, hk1], q2⟩)
  have HC2 : Hid (∀ W n' a' l' c' d', Wh W neg a len cap ds x → Wh W n' a' l' c' d' 9223372036854775807 → Calls Try.prog 30 #[.agg #[.bool neg, .slice a len cap], .agg #[.bool n', .slice a' l' c']] W (fun e w' => e = .returned (.int .i64 k2) ∧ Below W.heap.size W w')) :=
    fun W n' a' l' c' d' g1 g2 => (cmp_any neg n' a a' len l' cap c' ds d' x _ W g1 g2).mono (fun e w' ⟨q1, q2⟩ => ⟨by rw [q1, hk2], q2⟩)
  have BX := box1_first w (.bool neg) (.slice a len cap) 38
  have HF : Hid (fitV x = x ∧ fitB x = true) := ⟨fitV_yes hf, fitB_yes hf⟩
  have HWh : Hid (Wh w neg a len cap ds x) := h
  clear hk1 hk2 h
  have hd1 : decide (k1 < 0) = false := by simpa using hk1'
  have hd2 : decide (0 < k2) = false := by simpa using hk2'
  go_enter Try.func17, Try.ntmps17
  go_upto_region 1 with fail
  generalize hW : (w.alloc _ : World) = W at *
  clear hW
  have b0 := BX.c0
  have b1 := BX.c1
  go_cut [15] (fun s15 wx => s15 = .bool false ∧ Box1 w wx (.bool neg) (.slice a len cap))
  case first =>
    go_region_with (first
      | (go_at_call 14; (with_reducible refine (HO1.out _).mono ?_); rintro e w1 ⟨m1, a1, l1, p1, d1, rfl, hw1, hb1, -⟩; have B1 := BX.drew.later hb1; have c0 := B1.c0; have c1 := B1.c1)
      | (go_at_call 30; (with_reducible refine (HC1.out _ _ _ _ _ _ (HX.out _ B1.old) hw1).mono ?_); rintro e w2 ⟨rfl, hb2⟩; have B2 := B1.later hb2; have c0' := B2.c0; have c1' := B2.c1)
      | (go_at_call 14; (with_reducible refine (HO2.out _).mono ?_); rintro e w3 ⟨m3, a3, l3, p3, d3, rfl, hw3, hb3, -⟩; have B3 := B2.later hb3; have c0'' := B3.c0; have c1'' := B3.c1)
      | (go_at_call 30; (with_reducible refine (HC2.out _ _ _ _ _ _ (HX.out _ B3.old) hw3).mono ?_); rintro e w4 ⟨rfl, hb4⟩; have B4 := B3.later hb4; have c0''' := B4.c0; have c1''' := B4.c1))
    all_goals
      go_wp2_with fail
      go_meet
      exact ⟨rfl, B4⟩
  case rest =>
    obtain ⟨rfl, B5⟩ := hcut
    clear HO1 HO2 HC1 HC2 BX b0 b1 hd1 hd2 hk1' hk2'
    have c0 := B5.c0
    have c1 := B5.c1
    have hs := HWh.out.row.size
    have hsh := HWh.out.row.short
    have hdig := HWh.out.row.dig
    have HD : Hid (Dig ds) := hdig
    have HAt : Hid (At wc a ds) := HWh.out.row.lies.below B5.old
    cases neg
    · have hx := HWh.out.pos
      have HXV : Hid (x = val ds) := hx.1
      have hvx : val ds ≤ 9223372036854775807 := by omega
      clear hx HWh HX hf hdig
      go_wp2
      go_loopg [4, 5] len (fun gk n i wr => wc = wr ∧ gk ≤ len ∧ i = .int .i64 ((gk : Int) - 1) ∧ n = .int .i64 (val (ds.drop gk)))
      case atStart => exact ⟨rfl, Nat.le_refl _, rfl, by rw [drop_end ds len (by omega)]; rfl⟩
      case round =>
        obtain ⟨rfl, hgk, rfl, rfl⟩ := hrel
        by_cases h0 : gk = 0
        · subst h0
          go_wp2
          go_ret2
          exact ⟨ret_two (by rw [HF.out.1, HXV.out]; rfl) HF.out.2.symm, B5.old⟩
        · obtain ⟨m, rfl⟩ : ∃ m, gk = m + 1 := ⟨gk - 1, by omega⟩
          obtain ⟨b, off, rfl, hc⟩ := HAt.out.resolve_left (by rintro rfl; simp at hs; omega)
          have g := hc m (by omega)
          have e0 : val (ds.drop m) = nth ds m + 1073741824 * val (ds.drop (m + 1)) := by rw [drop_nth ds m (by omega)]; rfl
          have v0 := val_nonneg (HD.out.drop (m + 1))
          have v1 := val_drop_le HD.out m
          have d0 := HD.out.nth m
          have HE : Hid (val (ds.drop m) = nth ds m + 1073741824 * val (ds.drop (m + 1))) := e0
          have q1 : 0 ≤ val (ds.drop (m + 1)) * 1073741824 + nth ds m ∧ val (ds.drop (m + 1)) * 1073741824 + nth ds m ≤ 9223372036854775807 := by omega
          have em : ((m + 1 : Nat) : Int) - 1 = (m : Int) := by omega
          rw [em]
          clear e0 v1 hc
          generalize val (ds.drop (m + 1)) = u at *
          generalize nth ds m = d at *
          go_wp2
          go_roundg m
          case measure => omega
          case rel => exact ⟨rfl, by omega, by go_num, by rw [HE.out]; go_num⟩
    · have hx := HWh.out.neg
      have HXV : Hid (x = -val ds) := hx.1
      have hvx : val ds ≤ 9223372036854775808 := by omega
      clear hx HWh HX hf hdig
      go_wp2
      go_loopg [4, 5] len (fun gk n i wr => wc = wr ∧ gk ≤ len ∧ i = .int .i64 ((gk : Int) - 1) ∧ n = .int .i64 (-val (ds.drop gk)))
      case atStart => exact ⟨rfl, Nat.le_refl _, rfl, by rw [drop_end ds len (by omega)]; rfl⟩
      case round =>
        obtain ⟨rfl, hgk, rfl, rfl⟩ := hrel
        by_cases h0 : gk = 0
        · subst h0
          go_wp2
          go_ret2
          exact ⟨ret_two (by rw [HF.out.1, HXV.out]; rfl) HF.out.2.symm, B5.old⟩
        · obtain ⟨m, rfl⟩ : ∃ m, gk = m + 1 := ⟨gk - 1, by omega⟩
          obtain ⟨b, off, rfl, hc⟩ := HAt.out.resolve_left (by rintro rfl; simp at hs; omega)
          have g := hc m (by omega)
          have e0 : val (ds.drop m) = nth ds m + 1073741824 * val (ds.drop (m + 1)) := by rw [drop_nth ds m (by omega)]; rfl
          have v0 := val_nonneg (HD.out.drop (m + 1))
          have v1 := val_drop_le HD.out m
          have d0 := HD.out.nth m
          have HE : Hid (val (ds.drop m) = nth ds m + 1073741824 * val (ds.drop (m + 1))) := e0
          have q1 : -9223372036854775808 ≤ -val (ds.drop (m + 1)) * 1073741824 - nth ds m ∧ -val (ds.drop (m + 1)) * 1073741824 - nth ds m ≤ 0 := by omega
          have em : ((m + 1 : Nat) : Int) - 1 = (m : Int) := by omega
          rw [em]
          clear e0 v1 hc
          generalize val (ds.drop (m + 1)) = u at *
          generalize nth ds m = d at *
          go_wp2
          go_roundg m
          case measure => omega
          case rel => exact ⟨rfl, by omega, by go_num, by rw [HE.out]; go_num⟩
end Go.Proofs.Ytoenbiigamegoab

/- Texts of one chain, laid one behind the other. -/
import Derived.Test.YtehgkgbijhobdaaRows
import Derived.Test.YtehgkgbijhobdaaPartActorsTwo1
import Derived.WalkKit
import Derived.ProofKit
import Derived.OpenShut
import Derived.BigQuiet
import Derived.Outline
namespace Go.Proofs.Ytehgkgbijhobdaa
open Go.ChangeShapes Go.WideShapes Go.ChangeAt Go.RowKit
theorem ret_two {a b : Int} {c d : Bool} (h : a = b) (k : c = d) : Ending.returned (.tuple #[.int .i64 a, .bool c]) = .returned (.tuple #[.int .i64 b, .bool d]) := by rw [h, k]
theorem add_any (a b : Int) (w : World) (ha : -9223372036854775808 ≤ a ∧ a ≤ 9223372036854775807) (hb : -9223372036854775808 ≤ b ∧ b ≤ 9223372036854775807) :
    Calls Try.prog 70 #[.int .i64 a, .int .i64 b] w fun e w' => e = .returned (.tuple #[.int .i64 (fitV (a + b)), .bool (fitB (a + b))]) ∧ w = w' := by
  obtain ⟨ha1, ha2⟩ := ha
  obtain ⟨hb1, hb2⟩ := hb
  by_cases h : -9223372036854775808 ≤ a + b ∧ a + b ≤ 9223372036854775807
  · rw [fitV_yes h, fitB_yes h]
    obtain ⟨h1, h2⟩ := h
    by_cases h0 : 0 < b
    · have h3 : ¬ 9223372036854775807 - b < a := by omega
      have h4 : ¬ b < 0 := by omega
      go_enter Try.func70, Try.ntmps70
      go_wp2
      go_ret2
      exact ⟨rfl, rfl⟩
    · by_cases h4 : b < 0
      · have h5 : ¬ a < -9223372036854775808 - b := by omega
        go_enter Try.func70, Try.ntmps70
        go_wp2
        go_ret2
        exact ⟨rfl, rfl⟩
      · go_enter Try.func70, Try.ntmps70
        go_wp2
        go_ret2
        exact ⟨rfl, rfl⟩
  · rw [fitV_no h, fitB_no h]
    by_cases h0 : 0 < b
    · have h3 : 9223372036854775807 - b < a := by omega
      clear h
      go_enter Try.func70, Try.ntmps70
      go_wp2
      go_ret2
      exact ⟨rfl, rfl⟩
    · have h4 : b < 0 := by omega
      have h5 : a < -9223372036854775808 - b := by omega
      clear h
      go_enter Try.func70, Try.ntmps70
      go_wp2
      go_ret2
      exact ⟨rfl, rfl⟩
theorem sub_any (a b : Int) (w : World) (ha : -9223372036854775808 ≤ a ∧ a ≤ 9223372036854775807) (hb : -9223372036854775808 ≤ b ∧ b ≤ 9223372036854775807) :
    Calls Try.prog 71 #[.int .i64 a, .int .i64 b] w fun e w' => e = .returned (.tuple #[.int .i64 (fitV (a - b)), .bool (fitB (a - b))]) ∧ w = w' := by
  obtain ⟨ha1, ha2⟩ := ha
  obtain ⟨hb1, hb2⟩ := hb
  by_cases h : -9223372036854775808 ≤ a - b ∧ a - b ≤ 9223372036854775807
  · rw [fitV_yes h, fitB_yes h]
    obtain ⟨h1, h2⟩ := h
    by_cases h0 : 0 < b
    · have h3 : ¬ a < -9223372036854775808 + b := by omega
      have h4 : ¬ b < 0 := by omega
      go_enter Try.func71, Try.ntmps71
      go_wp2
      go_ret2
      exact ⟨rfl, rfl⟩
    · by_cases h4 : b < 0
      · have h5 : ¬ 9223372036854775807 + b < a := by omega
        go_enter Try.func71, Try.ntmps71
        go_wp2
        go_ret2
        exact ⟨rfl, rfl⟩
      · go_enter Try.func71, Try.ntmps71
        go_wp2
        go_ret2
        exact ⟨rfl, rfl⟩
  · rw [fitV_no h, fitB_no h]
    by_cases h0 : 0 < b
    · have h3 : a < -9223372036854775808 + b := by omega
      clear h
      go_enter Try.func71, Try.ntmps71
      go_wp2
      go_ret2
      exact ⟨rfl, rfl⟩
    · have h4 : b < 0 := by omega
      have h5 : 9223372036854775807 + b < a := by omega
      clear h
      go_enter Try.func71, Try.ntmps71
      go_wp2
      go_ret2
      exact ⟨rfl, rfl⟩
theorem mul_any (a b : Int) (w : World) (ha : -9223372036854775808 ≤ a ∧ a ≤ 9223372036854775807) (hb : -9223372036854775808 ≤ b ∧ b ≤ 9223372036854775807) :
    Calls Try.prog 69 #[.int .i64 a, .int .i64 b] w fun e w' => e = .returned (.tuple #[.int .i64 (fitV (a * b)), .bool (fitB (a * b))]) ∧ w = w' := by
  by_cases h0 : b = 0
  · subst h0
    have hv : fitV (a * 0) = 0 := by rw [Int.mul_zero]; decide
    have ht : fitB (a * 0) = true := by rw [Int.mul_zero]; decide
    rw [hv, ht]
    go_enter Try.func69, Try.ntmps69
    go_wp2
    go_ret2
    exact ⟨rfl, rfl⟩
  · by_cases h1 : b = -1
    · subst h1
      have e : a * -1 = -a := by omega
      rw [e]
      go_enter Try.func69, Try.ntmps69
      go_wp2_with (go_at_call 71; refine (sub_any _ _ _ (by decide) ha).mono ?_; rintro e w' ⟨rfl, rfl⟩)
      go_ret2
      exact ⟨rfl, rfl⟩
    · have hb0 : (b == 0) = false := by simpa using h0
      have hb1 : (b == -1) = false := by simpa using h1
      by_cases h : -9223372036854775808 ≤ a * b ∧ a * b ≤ 9223372036854775807
      · rw [fitV_yes h, fitB_yes h]
        have hk := back_yes h0 ha h
        go_enter Try.func69, Try.ntmps69
        go_wp2
        go_ret2
        exact ⟨rfl, rfl⟩
      · rw [fitV_no h, fitB_no h]
        have hk : (wrap64 ((wrap64 (a * b)).tdiv b) != a) = true := by simpa using back_no h0 hb h h1 ha
        clear h
        go_enter Try.func69, Try.ntmps69
        go_wp2
        go_ret2
        exact ⟨rfl, rfl⟩
/-- A row of numbers lies in memory where a slice says. -/
def At (w : World) (a : Option Addr) (zs : List Int) : Prop :=
  zs = [] ∨ ∃ b off, a = some ⟨b, off, none⟩ ∧ ∀ k, k < zs.length → w.cell? ⟨b, off + k, none⟩ = some (.int .i64 (nth zs k))
set_option maxHeartbeats 400000 in
theorem sum_any (a : Option Addr) (zs : List Int) (len cap : Nat) (w : World) (hl : zs.length = len) (hm : len ≤ 4611686018427387904) (hz : InR zs) (h : At w a zs) :
    Calls Try.prog 78 #[.slice a len cap] w fun e w' => e = .returned (.tuple #[.int .i64 (sumV zs), .bool (sumB zs)]) ∧ w = w' := by
  rcases h with h | ⟨b, off, rfl, hc⟩
  · subst h
    subst hl
    go_enter Try.func78, Try.ntmps78
    go_wp2
    go_loop [4, 5, 10] (fun s _ i => s = .int .i64 0 ∧ i = .int .i64 0) (fun _ _ _ => 0)
    case atStart => exact ⟨rfl, rfl⟩
    case round =>
      obtain ⟨rfl, rfl⟩ := hrel
      go_wp2
      go_ret2
      exact ⟨rfl, rfl⟩
  · go_enter Try.func78, Try.ntmps78
    go_wp2
    go_loop [4, 5, 10] (fun s _ i => ∃ (k : Nat) (x : Int), k ≤ len ∧ i = .int .i64 k ∧ s = .int .i64 x ∧ (-9223372036854775808 ≤ x ∧ x ≤ 9223372036854775807) ∧ sumO x (zs.drop k) = sumO 0 zs) (fun _ _ i => len - (intOf i).toNat)
    case atStart => exact ⟨0, 0, Nat.zero_le _, rfl, rfl, by decide, rfl⟩
    case round =>
      obtain ⟨k, x, hk, rfl, rfl, hx, hs⟩ := hrel
      have HS : Hid (sumO x (zs.drop k) = sumO 0 zs) := hs
      clear hs
      by_cases hlt : k < len
      · have hck := hc k (by omega)
        have hzk := hz k
        have HD : Hid (zs.drop k = nth zs k :: zs.drop (k + 1)) := drop_nth zs k (by omega)
        by_cases hf : -9223372036854775808 ≤ x + nth zs k ∧ x + nth zs k ≤ 9223372036854775807
        · have hfb := fitB_yes hf
          have hfv := fitV_yes hf
          go_wp2_with (go_at_call 70; refine (add_any _ _ _ hx hzk).mono ?_; rintro e w' ⟨rfl, rfl⟩)
          go_round
          case rel => exact ⟨k + 1, x + nth zs k, by omega, by go_num, rfl, hf, by rw [← HS.out, HD.out, sumO, hfb]; rfl⟩
          case measure => simp [intOf]; omega
        · have hfb := fitB_no hf
          have hfv := fitV_no hf
          go_wp2_with (go_at_call 70; refine (add_any _ _ _ hx hzk).mono ?_; rintro e w' ⟨rfl, rfl⟩)
          go_ret2
          have e : sumO 0 zs = none := by rw [← HS.out, HD.out, sumO, hfb]; rfl
          exact ⟨ret_two (by rw [sumV, e]; rfl) (by rw [sumB, e]; rfl), rfl⟩
      · have HD : Hid (zs.drop k = []) := drop_end zs k (by omega)
        go_wp2
        go_ret2
        have e : sumO 0 zs = some x := by rw [← HS.out, HD.out]; rfl
        exact ⟨ret_two (by rw [sumV, e]; rfl) (by rw [sumB, e]; rfl), rfl⟩
theorem dotO_nil_left (s : Int) (ys : List Int) : dotO s [] ys = some s := by cases ys <;> rfl
set_option maxHeartbeats 400000 in
theorem dot_any (a1 a2 : Option Addr) (xs ys : List Int) (len1 cap1 len2 cap2 : Nat) (w : World) (hl1 : xs.length = len1) (hl2 : ys.length = len2) (hm1 : len1 ≤ 4611686018427387904) (hm2 : len2 ≤ 4611686018427387904) (hx : InR xs) (hy : InR ys) (h1 : At w a1 xs) (h2 : At w a2 ys) :
    Calls Try.prog 67 #[.slice a1 len1 cap1, .slice a2 len2 cap2] w fun e w' => e = .returned (.tuple #[.int .i64 (dotV xs ys), .bool (dotB xs ys)]) ∧ w = w' := by
  by_cases hne : len1 = len2
  · subst hne
    have HV : Hid (dotV xs ys = (dotO 0 xs ys).getD 0) := by show dotV xs ys = _; unfold dotV; rw [if_pos (by omega)]
    have HB : Hid (dotB xs ys = (dotO 0 xs ys).isSome) := by show dotB xs ys = _; unfold dotB; rw [decide_eq_true (by omega)]; rfl
    rcases h1 with h | ⟨b1, off1, rfl, hc1⟩
    · subst h
      have h0 : len1 = 0 := by simpa using hl1.symm
      subst h0
      clear hl1 hl2
      go_enter Try.func67, Try.ntmps67
      go_wp2
      go_loop [6, 10, 18] (fun s _ i => s = .int .i64 0 ∧ i = .int .i64 0) (fun _ _ _ => 0)
      case atStart => exact ⟨rfl, rfl⟩
      case round =>
        obtain ⟨rfl, rfl⟩ := hrel
        go_wp2
        go_ret2
        exact ⟨ret_two (by rw [HV.out, dotO_nil_left]; rfl) (by rw [HB.out, dotO_nil_left]; rfl), rfl⟩
    · rcases h2 with h | ⟨b2, off2, rfl, hc2⟩
      · subst h
        have h0 : len1 = 0 := by simpa using hl2.symm
        subst h0
        have h3 : xs = [] := List.eq_nil_of_length_eq_zero hl1
        subst h3
        clear hl1 hl2 hc1
        go_enter Try.func67, Try.ntmps67
        go_wp2
        go_loop [6, 10, 18] (fun s _ i => s = .int .i64 0 ∧ i = .int .i64 0) (fun _ _ _ => 0)
        case atStart => exact ⟨rfl, rfl⟩
        case round =>
          obtain ⟨rfl, rfl⟩ := hrel
          go_wp2
          go_ret2
          exact ⟨ret_two (by rw [HV.out]; rfl) (by rw [HB.out]; rfl), rfl⟩
      · have hee : ((len1 : Int) == (len1 : Int)) = true := by simp
        go_enter Try.func67, Try.ntmps67
        go_wp2
        go_loop [6, 10, 18] (fun s _ i => ∃ (k : Nat) (x : Int), k ≤ len1 ∧ i = .int .i64 k ∧ s = .int .i64 x ∧ (-9223372036854775808 ≤ x ∧ x ≤ 9223372036854775807) ∧ dotO x (xs.drop k) (ys.drop k) = dotO 0 xs ys) (fun _ _ i => len1 - (intOf i).toNat)
        case atStart => exact ⟨0, 0, Nat.zero_le _, rfl, rfl, by decide, rfl⟩
        case round =>
          obtain ⟨k, x, hk, rfl, rfl, hx0, hs⟩ := hrel
          have HS : Hid (dotO x (xs.drop k) (ys.drop k) = dotO 0 xs ys) := hs
          clear hs
          by_cases hlt : k < len1
          · have hck1 := hc1 k (by omega)
            have hck2 := hc2 k (by omega)
            have hzk1 := hx k
            have hzk2 := hy k
            have HD1 : Hid (xs.drop k = nth xs k :: xs.drop (k + 1)) := drop_nth xs k (by omega)
            have HD2 : Hid (ys.drop k = nth ys k :: ys.drop (k + 1)) := drop_nth ys k (by omega)
            have hml := mul_any (nth xs k) (nth ys k)
            generalize hp : nth xs k * nth ys k = p at *
            have HP : Hid (nth xs k * nth ys k = p) := hp
            clear hp
            by_cases hf : -9223372036854775808 ≤ p ∧ p ≤ 9223372036854775807
            · have hfb := fitB_yes hf
              have hfv := fitV_yes hf
              rw [hfb, hfv] at hml
              have HF : Hid (fitB p = true) := hfb
              clear hfb hfv
              have had := add_any x p
              by_cases hg : -9223372036854775808 ≤ x + p ∧ x + p ≤ 9223372036854775807
              · have hgb := fitB_yes hg
                have hgv := fitV_yes hg
                rw [hgb, hgv] at had
                have HGB : Hid (fitB (x + p) = true) := hgb
                clear hgb hgv
                go_wp2_with (first | (go_at_call 69; refine (hml _ hzk1 hzk2).mono ?_; rintro e w' ⟨rfl, rfl⟩) | (go_at_call 70; refine (had _ hx0 hf).mono ?_; rintro e w' ⟨rfl, rfl⟩))
                go_round
                case rel => exact ⟨k + 1, x + p, by omega, by go_num, rfl, hg, by rw [← HS.out, HD1.out, HD2.out, dotO, HP.out, HF.out, HGB.out]; rfl⟩
                case measure => simp [intOf]; omega
              · have hgb := fitB_no hg
                have hgv := fitV_no hg
                rw [hgb, hgv] at had
                have HGB : Hid (fitB (x + p) = false) := hgb
                clear hgb hgv
                go_wp2_with (first | (go_at_call 69; refine (hml _ hzk1 hzk2).mono ?_; rintro e w' ⟨rfl, rfl⟩) | (go_at_call 70; refine (had _ hx0 hf).mono ?_; rintro e w' ⟨rfl, rfl⟩))
                go_ret2
                have e : dotO 0 xs ys = none := by rw [← HS.out, HD1.out, HD2.out, dotO, HP.out, HF.out, HGB.out]; rfl
                exact ⟨ret_two (by rw [HV.out, e]; rfl) (by rw [HB.out, e]; rfl), rfl⟩
            · have hfb := fitB_no hf
              have hfv := fitV_no hf
              rw [hfb, hfv] at hml
              have HF : Hid (fitB p = false) := hfb
              clear hfb hfv
              go_wp2_with (first | (go_at_call 69; refine (hml _ hzk1 hzk2).mono ?_; rintro e w' ⟨rfl, rfl⟩))
              go_ret2
              have e : dotO 0 xs ys = none := by rw [← HS.out, HD1.out, HD2.out, dotO, HP.out, HF.out]; rfl
              exact ⟨ret_two (by rw [HV.out, e]; rfl) (by rw [HB.out, e]; rfl), rfl⟩
          · have HD1 : Hid (xs.drop k = []) := drop_end xs k (by omega)
            go_wp2
            go_ret2
            have e : dotO 0 xs ys = some x := by rw [← HS.out, HD1.out, dotO_nil_left]
            exact ⟨ret_two (by rw [HV.out, e]; rfl) (by rw [HB.out, e]; rfl), rfl⟩
  · have HV : Hid (dotV xs ys = 0) := by show dotV xs ys = _; unfold dotV; rw [if_neg (by omega)]
    have HB : Hid (dotB xs ys = false) := by show dotB xs ys = _; unfold dotB; rw [decide_eq_false (by omega)]; rfl
    have hne2 : ((len1 : Int) == (len2 : Int)) = false := by simp; omega
    have hne3 : ((len1 : Int) != (len2 : Int)) = true := by simp; omega
    clear hl1 hl2
    go_enter Try.func67, Try.ntmps67
    go_wp2
    go_ret2
    exact ⟨ret_two HV.out.symm HB.out.symm, rfl⟩
theorem bdrew {B : Nat} {a w : World} (h : Below B a w) (n : Nat) : Below B a (w.drewN n) := h.trans ⟨rfl, rfl, rfl, Nat.le_refl _, fun _ _ => rfl⟩
theorem at2 {W : World} {b : Nat} {x y : Int} (h0 : W.cell? ⟨b, 0, none⟩ = some (.int .i64 x)) (h1 : W.cell? ⟨b, 1, none⟩ = some (.int .i64 y)) : At W (some ⟨b, 0, none⟩) [x, y] := by
  refine Or.inr ⟨_, _, rfl, fun k hk => ?_⟩
  match k, hk with
  | 0, _ => exact h0
  | 1, _ => exact h1
theorem at2n {V : World} {b : Nat} {x y : Int} {t : TypeId} (hb : b = V.heap.size) : At (V.alloc (.cells #[.int .i64 x, .int .i64 y] t)) (some ⟨b, 0, none⟩) [x, y] := by
  subst hb
  exact at2 (by simp) (by simp)
end Go.Proofs.Ytehgkgbijhobdaa
namespace Go.Proofs.Ytehgkgbijhobdaa
open Go Go.ChangeShapes Go.WideShapes Go.ChangeAt Go.RowKit
section
variable {P : Program} {ops : Array Oper} {md : Region.Mode} {C : World → Prop} {chain : List PanicEntry} {p : Nat} {d : List Deferred}
/-- Operation p is a call that panics, in every world of the class. -/
def EndsAt (P : Program) (ops : Array Oper) (C : World → Prop) (chain : List PanicEntry) (p : Nat) (a : Act) : Prop :=
  ∃ o, ops[p]? = some o ∧ Region.wanted o (yielded ops a.tmps) = true ∧ ∀ w, C w → ∃ f args, (execOp a.eval o).run P w = .ok (.enter f args) w ∧ Calls P f args w (fun e w' => e = .panicked chain ∧ C w')
/-- Whatever is picked from here on: each operation is quiet, or it is the one that panics, which comes up at the last. -/
def AnyEnds (P : Program) (md : Region.Mode) (ops : Array Oper) (C : World → Prop) (chain : List PanicEntry) (p : Nat) (d : List Deferred) : Nat → Array Bool → Act → Prop
  | 0, listed, a => a.defers = d ∧ Region.ready md ops listed = [p] ∧ EndsAt P ops C chain p a
  | f + 1, listed, a => a.defers = d ∧ Region.ready md ops listed ≠ [] ∧
      ∀ i ∈ Region.ready md ops listed, (i = p ∧ EndsAt P ops C chain p a) ∨ qOp P ops C i (AnyEnds P md ops C chain p d f (listed.setIfInBounds i true)) a
theorem put_defers (a : Act) (x : Option Tmp) (v : Value) : (a.put x v).defers = a.defers := by cases x <;> rfl
theorem EndsAt.wpOp {Q' : Exit → Act → World → Prop} {K : Act → World → Prop} {a : Act} {w : World} (h : EndsAt P ops C chain p a) (hw : C w) (hQ : ∀ w, C w → Q' (.panic chain) a w) : wpOp P ops Q' p K a w := by
  obtain ⟨o, ho, hwant, hr⟩ := h
  obtain ⟨f, args, hrun, hc⟩ := hr w hw
  unfold Go.wpOp
  simp only [ho, hwant, if_true]
  refine .inl ?_
  unfold Oper.wp
  rw [hrun]
  exact hc.mono fun e w' ⟨he, hw'⟩ => by subst he; exact hQ _ hw'
theorem AnyEnds.any {Q' : Exit → Act → World → Prop} (hQ : ∀ a w, a.defers = d → C w → Q' (.panic chain) a w) (g : Nat) : ∀ (f : Nat) (listed : Array Bool) (a : Act) (w : World), C w →
    AnyEnds P md ops C chain p d f listed a → wpAny P md ops Q' (f + (g + 1)) listed a w
  | 0, listed, a, w, hw, h => by
    rw [Nat.zero_add]
    refine ⟨fun h0 => (by rw [h.2.1] at h0; cases h0), fun i hi => ?_⟩
    rw [h.2.1] at hi
    have e : i = p := by simpa using hi
    subst e
    exact h.2.2.wpOp hw (fun w' hw' => hQ _ _ h.1 hw')
  | f + 1, listed, a, w, hw, h => by
    rw [show f + 1 + (g + 1) = (f + (g + 1)) + 1 by omega]
    refine ⟨fun h0 => absurd h0 h.2.1, fun i hi => ?_⟩
    rcases h.2.2 i hi with ⟨e, he⟩ | hq
    · subst e
      exact he.wpOp hw (fun w' hw' => hQ _ _ h.1 hw')
    · exact wpOp_of_qOp hw (fun a' w' hw' k => AnyEnds.any hQ g f _ a' w' hw' k) hq
/-- It panics, too, where an operation that is apart from it has not come up yet. -/
theorem EndsAt.back {oi op : Oper} {v : Value} {a : Act} (hp : ops[p]? = some op) (hap : oi.apart ops op = true) (hsp : ∀ cs b, op.op ≠ .select cs b) (h : EndsAt P ops C chain p (a.put oi.dst v)) : EndsAt P ops C chain p a := by
  obtain ⟨h1, -, -⟩ := Oper.apart_spec hap
  obtain ⟨o, ho, hwant, hr⟩ := h
  have e : o = op := Option.some.inj (ho.symm.trans hp)
  subst e
  rw [wanted_put o a oi.dst v h1] at hwant
  refine ⟨o, ho, hwant, fun w hw => ?_⟩
  have := hr w hw
  rwa [execOp_put o hsp a oi.dst v h1] at this
theorem AnyEnds.first {i : Nat} {oi : Oper} {v : Value} (hi : ops[i]? = some oi) (hsel : ∀ (j : Nat) (o : Oper) cs b, ops[j]? = some o → o.op ≠ .select cs b) (hip : i ≠ p) :
    ∀ (f : Nat) (listed : Array Bool) (a : Act),
      (∀ j oj, ops[j]? = some oj → j ≠ i → listed.getD j true = false → (∀ e ∈ oj.after, Region.binds md e = true → e.on ≠ i) → oi.apart ops oj = true) →
      i ∈ Region.ready md ops listed → YieldsIn P ops C oi v a →
      AnyEnds P md ops C chain p d f (listed.setIfInBounds i true) (a.put oi.dst v) → AnyEnds P md ops C chain p d (f + 1) listed a := by
  intro f
  -- an operation that may come up now, i not listed: it does not wait for i, so it is apart from i
  have apart : ∀ (listed : Array Bool), (∀ j oj, ops[j]? = some oj → j ≠ i → listed.getD j true = false → (∀ e ∈ oj.after, Region.binds md e = true → e.on ≠ i) → oi.apart ops oj = true) →
      i ∈ Region.ready md ops listed → ∀ j, j ∈ Region.ready md ops listed → j ≠ i → ∃ oj, ops[j]? = some oj ∧ oi.apart ops oj = true ∧ listed.getD j true = false := by
    intro listed hfree hr j hj hji
    obtain ⟨hjun, oj, hoj, hall⟩ := mem_ready.1 hj
    refine ⟨oj, hoj, hfree j oj hoj hji hjun fun e he hb heq => ?_, hjun⟩
    have h1 := hall e he hb
    have h0 := (mem_ready.1 hr).1
    rw [heq] at h1
    rcases Nat.lt_or_ge i listed.size with h' | h'
    · simp [h'] at h0 h1; rw [h0] at h1; cases h1
    · simp [Array.getElem?_eq_none h'] at h1
  induction f with
  | zero =>
    intro listed a hfree hr hy H
    refine ⟨by rw [← put_defers a oi.dst v]; exact H.1, fun h => (by rw [h] at hr; cases hr), fun j hj => ?_⟩
    by_cases hji : j = i
    · subst hji; exact .inr (hy.qOp hi H)
    · have hm := ready_mono hj hji
      rw [H.2.1] at hm
      have e : j = p := by simpa using hm
      obtain ⟨oj, hoj, hap, -⟩ := apart listed hfree hr j hj hji
      subst e
      exact .inl ⟨rfl, H.2.2.back hoj hap (fun cs b => hsel j oj cs b hoj)⟩
  | succ f ih =>
    intro listed a hfree hr hy H
    refine ⟨by rw [← put_defers a oi.dst v]; exact H.1, fun h => (by rw [h] at hr; cases hr), fun j hj => ?_⟩
    by_cases hji : j = i
    · subst hji; exact .inr (hy.qOp hi H)
    · obtain ⟨oj, hoj, hap, hjun⟩ := apart listed hfree hr j hj hji
      rcases H.2.2 j (ready_mono hj hji) with ⟨e, he⟩ | hq
      · subst e
        exact .inl ⟨rfl, he.back hoj hap (fun cs b => hsel j oj cs b hoj)⟩
      · refine .inr (qOp_mono (fun a' h3 => ih (listed.setIfInBounds j true) a' (fun k ok hk hki hun hno => hfree k ok hk hki ?_ hno) (ready_mono hr (Ne.symm hji)) h3.1 ?_)
          (qOp_put hoj hap (fun cs b => hsel i oi cs b hi) (fun cs b => hsel j oj cs b hoj) hy hq))
        · by_cases hjk : j = k
          · subst hjk; exact hjun
          · rwa [getD_set_ne true hjk] at hun
        · rw [Array.setIfInBounds_comm _ _ hji]
          exact h3.2
end
theorem gTA {α : Type} {xs : List α} {i : Nat} : xs.toArray[i]? = xs[i]? := List.getElem?_toArray
theorem gCZ {α : Type} {a : α} {l : List α} : (a :: l)[0]? = some a := List.getElem?_cons_zero
theorem gCS {α : Type} {a : α} {l : List α} {i : Nat} : (a :: l)[i + 1]? = l[i]? := List.getElem?_cons_succ
theorem gSI {α : Type} {a b : α} : (some a = some b) = (a = b) := Option.some.injEq a b
end Go.Proofs.Ytehgkgbijhobdaa

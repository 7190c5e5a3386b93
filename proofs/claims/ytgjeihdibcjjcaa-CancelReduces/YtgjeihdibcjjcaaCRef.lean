/- The document's Wrong and Equal of chapter 3 (pianolaref03). -/
import Derived.Test.YtgjeihdibcjjcaaC4
import Derived.Test.YtgjeihdibcjjcaaBigProd
import Derived.Test.YtgjeihdibcjjcaaBigWh
namespace Go.Proofs.Ytgjeihdibcjjcaa
open Go.ChangeShapes Go.WideShapes Go.ChangeAt Go.RowKit

set_option maxRecDepth 100000 in
set_option maxHeartbeats 1000000 in
theorem wrong_any (a1 a2 : Option Addr) (xs ys : List Int) (l1 c1 l2 c2 : Nat) (w : World) (hl1 : xs.length = l1) (hl2 : ys.length = l2) (hm1 : l1 ≤ 4611686018427387904) (hm2 : l2 ≤ 4611686018427387904) (h1 : At w a1 xs) (h2 : At w a2 ys) :
    Calls Try.prog 29 #[.slice a1 l1 c1, .slice a2 l2 c2] w fun e w' => e = .returned (.int .i64 (cE xs ys)) ∧ w = w' := by
  by_cases hL1 : 1024 < l1
  · have hd1 : decide ((1024 : Int) < (l1 : Int)) = true := decide_eq_true (by omega)
    have HE : Hid (cE xs ys = 2) := cE_long (.inl (by omega))
    clear h1 h2 hL1
    go_enter Try.func29, Try.ntmps29
    go_wp2
    go_ret
    exact ⟨by rw [HE.out]; rfl, rfl⟩
  by_cases hL2 : 1024 < l2
  · have hd1 : decide ((1024 : Int) < (l1 : Int)) = false := decide_eq_false (by omega)
    have hd2 : decide ((1024 : Int) < (l2 : Int)) = true := decide_eq_true (by omega)
    have HE : Hid (cE xs ys = 2) := cE_long (.inr (by omega))
    clear h1 h2 hL1 hL2
    go_enter Try.func29, Try.ntmps29
    go_wp2
    go_ret
    exact ⟨by rw [HE.out]; rfl, rfl⟩
  have hd1 : decide ((1024 : Int) < (l1 : Int)) = false := decide_eq_false (by omega)
  have hd2 : decide ((1024 : Int) < (l2 : Int)) = false := decide_eq_false (by omega)
  have HB : Hid (∀ b c, posB xs = b → posB ys = c → cE xs ys = if (b && c) = true then 0 else 1) := fun b c hb hc => by
    unfold cE; rw [if_neg (by omega), hb, hc]
  have HC1 : Hid (∀ k, k < l1 → ∃ b off, a1 = some ⟨b, off, none⟩ ∧ w.cell? ⟨b, off + k, none⟩ = some (.int .i64 (nth xs k))) := fun k hk => by
    obtain ⟨b, off, e, hc⟩ := h1.resolve_left (fun e => by rw [e] at hl1; simp at hl1; omega)
    exact ⟨b, off, e, hc k (by omega)⟩
  have HC2 : Hid (∀ k, k < l2 → ∃ b off, a2 = some ⟨b, off, none⟩ ∧ w.cell? ⟨b, off + k, none⟩ = some (.int .i64 (nth ys k))) := fun k hk => by
    obtain ⟨b, off, e, hc⟩ := h2.resolve_left (fun e => by rw [e] at hl2; simp at hl2; omega)
    exact ⟨b, off, e, hc k (by omega)⟩
  clear h1 h2 hL1 hL2
  go_enter Try.func29, Try.ntmps29
  go_wp2
  go_loop [5] (fun i => ∃ (k : Nat), k ≤ l1 ∧ i = .int .i64 k ∧ posB (xs.drop k) = posB xs) (fun i => l1 - (intOf i).toNat)
  case atStart => exact ⟨0, Nat.zero_le _, rfl, rfl⟩
  case round =>
    obtain ⟨k, hk, rfl, hs⟩ := hrel
    have HS : Hid (posB (xs.drop k) = posB xs) := hs
    clear hs
    by_cases hlt : k < l1
    · obtain ⟨b, off, rfl, hck⟩ := HC1.out k hlt
      have HD : Hid (xs.drop k = nth xs k :: xs.drop (k + 1)) := drop_nth xs k (by omega)
      generalize nth xs k = z at *
      by_cases hf : z < 1
      · have hf0 : decide (z < 1) = true := decide_eq_true hf
        have HF : Hid (decide (1 ≤ z) = false) := decide_eq_false (by omega)
        clear hf
        go_wp2
        go_ret
        have e : posB xs = false := by rw [← HS.out, HD.out, posB, HF.out]; rfl
        exact ⟨by rw [HB.out false (posB ys) e rfl]; rfl, rfl⟩
      · have hf0 : decide (z < 1) = false := decide_eq_false hf
        have HF : Hid (decide (1 ≤ z) = true) := decide_eq_true (by omega)
        clear hf
        go_wp2
        go_round
        case rel => exact ⟨k + 1, by omega, by go_num, by rw [← HS.out, HD.out, posB, HF.out]; rfl⟩
        case measure => simp [intOf]; omega
    · have HP1 : Hid (posB xs = true) := by show posB xs = true; rw [← HS.out, List.drop_eq_nil_of_le (by omega)]; rfl
      have ek : l1 = k := by omega
      subst ek
      have hkk : ¬ (l1 : Int) < (l1 : Int) := by omega
      clear HS hlt
      go_wp2
      go_loop [6] (fun i => ∃ (k : Nat), k ≤ l2 ∧ i = .int .i64 k ∧ posB (ys.drop k) = posB ys) (fun i => l2 - (intOf i).toNat)
      case atStart => exact ⟨0, Nat.zero_le _, rfl, rfl⟩
      case round =>
        obtain ⟨k, hk, rfl, hs⟩ := hrel
        have HS : Hid (posB (ys.drop k) = posB ys) := hs
        clear hs
        by_cases hlt : k < l2
        · obtain ⟨b, off, rfl, hck⟩ := HC2.out k hlt
          have HD : Hid (ys.drop k = nth ys k :: ys.drop (k + 1)) := drop_nth ys k (by omega)
          generalize nth ys k = z at *
          by_cases hf : z < 1
          · have hf0 : decide (z < 1) = true := decide_eq_true hf
            have HF : Hid (decide (1 ≤ z) = false) := decide_eq_false (by omega)
            clear hf
            go_wp2
            go_ret
            have e : posB ys = false := by rw [← HS.out, HD.out, posB, HF.out]; rfl
            exact ⟨by rw [HB.out true false HP1.out e]; rfl, rfl⟩
          · have hf0 : decide (z < 1) = false := decide_eq_false hf
            have HF : Hid (decide (1 ≤ z) = true) := decide_eq_true (by omega)
            clear hf
            go_wp2
            go_round
            case rel => exact ⟨k + 1, by omega, by go_num, by rw [← HS.out, HD.out, posB, HF.out]; rfl⟩
            case measure => simp [intOf]; omega
        · have HP2 : Hid (posB ys = true) := by show posB ys = true; rw [← HS.out, List.drop_eq_nil_of_le (by omega)]; rfl
          have ek : l2 = k := by omega
          subst ek
          have hmm : ¬ (l2 : Int) < (l2 : Int) := by omega
          clear HS hlt
          go_wp2
          go_ret
          exact ⟨by rw [HB.out true true HP1.out HP2.out]; rfl, rfl⟩

theorem cmpI_zero {x y : Int} (h : cmpI x y = 0) : x = y := by
  unfold cmpI at h
  split at h
  · cases h
  · split at h
    · cases h
    · omega
theorem prodI_up (ns : List Nat) : prodI (up ns) = (prodN' ns : Int) := by
  induction ns with
  | nil => rfl
  | cons n ns ih => show (n : Int) * prodI (up ns) = ((n * prodN' ns : Nat) : Int); rw [ih, Int.natCast_mul]
theorem prodI_nats {zs : List Int} (h : posB zs = true) : prodI zs = (prodN' (nats zs) : Int) := by
  have := prodI_up (nats zs)
  rw [up_nats h] at this
  exact this

set_option maxRecDepth 100000 in
set_option maxHeartbeats 1000000 in
theorem requal_any (a1 a2 : Option Addr) (xs ys : List Int) (l1 c1 l2 c2 : Nat) (w : World) (hl1 : xs.length = l1) (hl2 : ys.length = l2) (hm1 : l1 ≤ 4611686018427387904) (hm2 : l2 ≤ 4611686018427387904) (hx : InR xs) (hy : InR ys) (h1 : At w a1 xs) (h2 : At w a2 ys) :
    Calls Try.prog 17 #[.slice a1 l1 c1, .slice a2 l2 c2] w (EqEnd w xs ys) := by
  have hw := wrong_any a1 a2 xs ys l1 c1 l2 c2 w hl1 hl2 hm1 hm2 h1 h2
  by_cases h0 : cE xs ys = 0
  · obtain ⟨b1, b2, p1, p2⟩ := cE_zero h0
    have P1 : Hid (∀ W, At W a1 xs → Calls Try.prog 23 #[.slice a1 l1 c1] W (MadeWh W (prodI xs) (3 + 3 * l1))) := fun W k => product_wh a1 xs l1 c1 W hl1 (by omega) hx k
    have P2 : Hid (∀ W, At W a2 ys → Calls Try.prog 23 #[.slice a2 l2 c2] W (MadeWh W (prodI ys) (3 + 3 * l2))) := fun W k => product_wh a2 ys l2 c2 W hl2 (by omega) hy k
    have HQ : Hid (eqB xs ys = (cmpI (prodI xs) (prodI ys) == 0)) := by
      show eqB xs ys = _
      unfold eqB
      rw [h0, prodI_nats p1, prodI_nats p2]
      by_cases h : prodN' (nats xs) = prodN' (nats ys)
      · rw [h, decide_eq_true rfl, decide_eq_true rfl, cmpI_eq rfl]; rfl
      · rw [decide_eq_false h]
        have : cmpI (prodN' (nats xs) : Int) (prodN' (nats ys) : Int) ≠ 0 := fun e => h (by have := cmpI_zero e; omega)
        have e2 : (cmpI (prodN' (nats xs) : Int) (prodN' (nats ys) : Int) == 0) = false := by simpa using this
        rw [e2]; rfl
    have HA1 : Hid (At w a1 xs) := h1
    have HA2 : Hid (At w a2 ys) := h2
    have HE : Hid (cE xs ys = 0) := h0
    rw [h0] at hw
    clear h1 h2 h0 b1 b2 p1 p2
    go_enter Try.func17, Try.ntmps17
    go_wp2_with (first
      | (go_at_call 24; refine (cmp_any _ _ _ _ _ _ _ _ _ _ _ _ _ (hwh1.below hb2) hwh2).mono ?_; rintro e w3 ⟨rfl, hb3⟩; have B3 := B2.trans (hb3.mono B2.size))
      | (go_at_call 23; refine (P2.out w1 (HA2.out.below hb1)).mono ?_; rintro e w2 ⟨m2, ad2, q2, p2, ds2, rfl, hwh2, hb2, hl2⟩; have B2 := hb1.trans (hb2.mono hb1.size))
      | (go_at_call 23; refine (P1.out w HA1.out).mono ?_; rintro e w1 ⟨m1, ad1, q1, p1, ds1, rfl, hwh1, hb1, hl1⟩)
      | (go_at_call 29; (with_reducible refine hw.mono ?_); rintro e w' ⟨rfl, rfl⟩))
    go_ret2
    exact ⟨by rw [HQ.out, HE.out]; rfl, B3⟩
  · have e0 : ((cE xs ys) != 0) = true := by simpa using h0
    have HB : Hid (eqB xs ys = false) := eqB_bad h0
    clear h0 h1 h2
    generalize hEE : cE xs ys = E at *
    have HEE : Hid (cE xs ys = E) := hEE
    clear hEE
    go_enter Try.func17, Try.ntmps17
    go_wp2_with (go_at_call 29; (with_reducible refine hw.mono ?_); rintro e w' ⟨rfl, rfl⟩)
    go_ret2
    exact ⟨by rw [HB.out, HEE.out]; rfl, Below.refl _ _⟩
end Go.Proofs.Ytgjeihdibcjjcaa

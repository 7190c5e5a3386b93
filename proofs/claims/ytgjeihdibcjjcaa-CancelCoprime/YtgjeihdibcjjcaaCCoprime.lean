/- The walk through the statement CancelCoprime. -/
import Derived.Test.YtgjeihdibcjjcaaCRef
import Derived.Test.YtgjeihdibcjjcaaCAwake
import Derived.Test.YtgjeihdibcjjcaaCopy
import Derived.Test.YtgjeihdibcjjcaaRefGcd
namespace Go.Proofs.Ytgjeihdibcjjcaa
open Go.ChangeShapes Go.WideShapes Go.ChangeAt Go.RowKit

theorem divs_get {xs ys : List Nat} (h : Divs xs ys) (i : Nat) (hi : i < xs.length) : xs.getD i 0 ∣ ys.getD i 0 := by
  induction xs generalizing ys i with
  | nil => simp at hi
  | cons x xs ih =>
    cases ys with
    | nil => exact h.elim
    | cons y ys =>
      cases i with
      | zero => exact h.1
      | succ i => exact ih h.2 i (by simpa using hi)
theorem getD_mem {xs : List Nat} {i : Nat} (hi : i < xs.length) : xs.getD i 0 ∈ xs := by
  rw [List.getD_eq_getElem?_getD, List.getElem?_eq_getElem hi]
  exact List.getElem_mem hi

/-- What is left at one place, and what was there. -/
theorem left_at {xs ys : List Int} (hx : InR xs) (h : cE xs ys = 0) (i : Nat) (hi : i < xs.length) :
    ∃ p x : Nat, Hid (p = (redP (nats xs) (nats ys)).getD i 0) ∧ nth (cA xs ys) i = (p : Int) ∧ nth xs i = (x : Int) ∧ 1 ≤ p ∧ p ≤ 9223372036854775807 ∧ p ∣ x := by
  obtain ⟨-, -, p1, p2⟩ := cE_zero h
  obtain ⟨f1, f2⟩ := cA_ok h
  have hl : i < (redP (nats xs) (nats ys)).length := by rw [redP_len, nats_len]; exact hi
  have hm := (sm_redP (qs := nats ys) (sm_nats hx p1)) _ (getD_mem hl)
  refine ⟨_, (nats xs).getD i 0, rfl, by rw [f1, up_get], ?_, hm.1, hm.2, divs_get (redP_divs _ _) i hl⟩
  have := up_get (ns := nats xs) (i := i)
  rw [up_nats p1] at this
  exact this
theorem left_atQ {xs ys : List Int} (hy : InR ys) (h : cE xs ys = 0) (i : Nat) (hi : i < ys.length) :
    ∃ q y : Nat, Hid (q = (redQ (nats xs) (nats ys)).getD i 0) ∧ nth (cB xs ys) i = (q : Int) ∧ nth ys i = (y : Int) ∧ 1 ≤ q ∧ q ≤ 9223372036854775807 ∧ q ∣ y := by
  obtain ⟨-, -, p1, p2⟩ := cE_zero h
  obtain ⟨f1, f2⟩ := cA_ok h
  have hl : i < (redQ (nats xs) (nats ys)).length := by rw [redQ_len, nats_len]; exact hi
  have hm := (sm_redQ (ps := nats xs) (sm_nats hy p2)) _ (getD_mem hl)
  refine ⟨_, (nats ys).getD i 0, rfl, by rw [f2, up_get], ?_, hm.1, hm.2, divs_get (redQ_divs _ _) i hl⟩
  have := up_get (ns := nats ys) (i := i)
  rw [up_nats p2] at this
  exact this
theorem left_cop {xs ys : List Int} (h : cE xs ys = 0) {i j : Nat} (hi : i < xs.length) (hj : j < ys.length) : Nat.gcd ((redP (nats xs) (nats ys)).getD i 0) ((redQ (nats xs) (nats ys)).getD j 0) = 1 := by
  obtain ⟨-, -, p1, p2⟩ := cE_zero h
  exact red_cop (nats_pos p1) _ (getD_mem (by rw [redP_len, nats_len]; exact hi)) _ (getD_mem (by rw [redQ_len, nats_len]; exact hj))
theorem rems {p x : Nat} (h : p ∣ x) : (x : Int).tmod (p : Int) = 0 ∧ (x : Int) % (p : Int) = 0 ∧ x % p = 0 := by
  have h3 : x % p = 0 := Nat.mod_eq_zero_of_dvd h
  have h2 : (x : Int) % (p : Int) = 0 := by rw [← Int.natCast_emod, h3]; rfl
  exact ⟨by rw [Int.tmod_eq_emod_of_nonneg (by omega)]; exact h2, h2, h3⟩
theorem cross {xs ys : List Int} (h : cE xs ys = 0) : prodI xs * prodI (cB xs ys) = prodI ys * prodI (cA xs ys) := by
  obtain ⟨-, -, p1, p2⟩ := cE_zero h
  obtain ⟨f1, f2⟩ := cA_ok h
  rw [prodI_nats p1, prodI_nats p2, f1, f2, prodI_up, prodI_up, ← Int.natCast_mul, ← Int.natCast_mul, red_prod]

set_option maxRecDepth 100000 in
set_option maxHeartbeats 1000000 in
theorem ccoprime_bad (a1 : Option Addr) (len1 cap1 : Nat) (xs : List Int) (a2 : Option Addr) (len2 cap2 : Nat) (ys : List Int) (w : World) (hA1 : Arg w a1 len1 cap1 xs) (hA2 : Arg w a2 len2 cap2 ys) (h0 : cE xs ys ≠ 0) :
    Calls Try.prog 6 #[.slice a1 len1 cap1, .slice a2 len2 cap2] w fun e w' => e = .returned (.bool true) ∧ Below w.heap.size w w' := by
  have hr1 := hA1.reach
  have hr2 := hA2.reach
  have I1 : Hid (∀ W, Arg W a1 len1 cap1 xs → Calls Try.prog 20 #[.slice a1 len1 cap1] W (Copied W len1 xs)) := fun W h => ints_any a1 xs len1 cap1 W h
  have I2 : Hid (∀ W, Arg W a2 len2 cap2 ys → Calls Try.prog 20 #[.slice a2 len2 cap2] W (Copied W len2 ys)) := fun W h => ints_any a2 ys len2 cap2 W h
  have R1 : Hid (∀ b1 b2 c1 c2 W, At W b1 xs → At W b2 ys → Calls Try.prog 10 #[.slice b1 len1 c1, .slice b2 len2 c2] W (RedEnd W xs ys)) :=
    fun b1 b2 c1 c2 W k1 k2 => reduce_any b1 b2 xs ys len1 c1 len2 c2 W hA1.size hA2.size (by omega) (by omega) hA1.fits hA2.fits k1 k2
  have HA1 : Hid (Arg w a1 len1 cap1 xs) := hA1
  have HA2 : Hid (Arg w a2 len2 cap2 ys) := hA2
  have HN : Hid (cA xs ys = [] ∧ cB xs ys = []) := cA_bad h0
  have h3 := cE_three xs ys
  clear hA1 hA2
  obtain ⟨E, hE⟩ : ∃ E, cE xs ys = E := ⟨_, rfl⟩
  rw [hE] at h0 h3
  have HE1 : Hid (cE xs ys = E) := hE
  clear hE
  have q0 : (E != 0) = true := by simpa using h0
  rcases h3 with h3 | h3 | h3
  · exact absurd h3 h0
  · subst h3
    clear h0
    go_enter Try.func6, Try.ntmps6
    go_wp2_with (first
      | (go_at_call 14; (with_reducible refine (awake3 _).mono ?_); rintro e w4 ⟨rfl, b4⟩; have B4 := B3.trans (b4.mono B3.size))
      | (go_at_call 10; (with_reducible refine (R1.out _ _ _ _ w2 k1b k2).mono ?_); rintro e w3 ⟨b3, aa, ab, na, nb, rfl, o1, o2, -⟩; rw [HE1.out]; rw [HN.out.1] at o1; rw [HN.out.2] at o2; obtain rfl : 0 = na := o1.1; obtain rfl : 0 = nb := o2.1; have B3 := B2.trans (b3.mono B2.size))
      | (go_at_call 20; (with_reducible refine (I2.out w1 (HA2.out.below b1)).mono ?_); rintro e w2 ⟨x2, cp2, rfl, k2, b2, -⟩; have k1b := k1.below b2; have B2 := b1.trans (b2.mono b1.size))
      | (go_at_call 20; (with_reducible refine (I1.out w HA1.out).mono ?_); rintro e w1 ⟨x1, cp1, rfl, k1, b1, -⟩))
    go_ret
    exact ⟨rfl, B4⟩
  · subst h3
    clear h0
    go_enter Try.func6, Try.ntmps6
    go_wp2_with (first
      | (go_at_call 14; (with_reducible refine (awake3 _).mono ?_); rintro e w4 ⟨rfl, b4⟩; have B4 := B3.trans (b4.mono B3.size))
      | (go_at_call 10; (with_reducible refine (R1.out _ _ _ _ w2 k1b k2).mono ?_); rintro e w3 ⟨b3, aa, ab, na, nb, rfl, o1, o2, -⟩; rw [HE1.out]; rw [HN.out.1] at o1; rw [HN.out.2] at o2; obtain rfl : 0 = na := o1.1; obtain rfl : 0 = nb := o2.1; have B3 := B2.trans (b3.mono B2.size))
      | (go_at_call 20; (with_reducible refine (I2.out w1 (HA2.out.below b1)).mono ?_); rintro e w2 ⟨x2, cp2, rfl, k2, b2, -⟩; have k1b := k1.below b2; have B2 := b1.trans (b2.mono b1.size))
      | (go_at_call 20; (with_reducible refine (I1.out w HA1.out).mono ?_); rintro e w1 ⟨x1, cp1, rfl, k1, b1, -⟩))
    go_ret
    exact ⟨rfl, B4⟩

set_option maxRecDepth 100000 in
set_option maxHeartbeats 1000000 in
theorem ccoprime_ok (a1 : Option Addr) (len1 cap1 : Nat) (xs : List Int) (a2 : Option Addr) (len2 cap2 : Nat) (ys : List Int) (w : World) (hA1 : Arg w a1 len1 cap1 xs) (hA2 : Arg w a2 len2 cap2 ys) (h0 : cE xs ys = 0) :
    Calls Try.prog 6 #[.slice a1 len1 cap1, .slice a2 len2 cap2] w fun e w' => e = .returned (.bool true) ∧ Below w.heap.size w w' := by
  have hr1 := hA1.reach
  have hr2 := hA2.reach
  obtain ⟨z1, z2, -, -⟩ := cE_zero h0
  have hs1 := hA1.size
  have hs2 := hA2.size
  have hlA : (cA xs ys).length = len1 := by rw [(cA_ok h0).1, up_len, redP_len, nats_len]; exact hs1
  have hlB : (cB xs ys).length = len2 := by rw [(cA_ok h0).2, up_len, redQ_len, nats_len]; exact hs2
  obtain ⟨iA, iB⟩ := cA_in hA1.fits hA2.fits
  have I1 : Hid (∀ W, Arg W a1 len1 cap1 xs → Calls Try.prog 20 #[.slice a1 len1 cap1] W (Copied W len1 xs)) := fun W h => ints_any a1 xs len1 cap1 W h
  have I2 : Hid (∀ W, Arg W a2 len2 cap2 ys → Calls Try.prog 20 #[.slice a2 len2 cap2] W (Copied W len2 ys)) := fun W h => ints_any a2 ys len2 cap2 W h
  have R1 : Hid (∀ b1 b2 c1 c2 W, At W b1 xs → At W b2 ys → Calls Try.prog 10 #[.slice b1 len1 c1, .slice b2 len2 c2] W (RedEnd W xs ys)) :=
    fun b1 b2 c1 c2 W k1 k2 => reduce_any b1 b2 xs ys len1 c1 len2 c2 W hA1.size hA2.size (by omega) (by omega) hA1.fits hA2.fits k1 k2
  have P1 : Hid (∀ W, At W a1 xs → Calls Try.prog 23 #[.slice a1 len1 cap1] W (MadeWh W (prodI xs) (3 + 3 * len1))) := fun W k => product_wh a1 xs len1 cap1 W hs1 (by omega) hA1.fits k
  have P2 : Hid (∀ W, At W a2 ys → Calls Try.prog 23 #[.slice a2 len2 cap2] W (MadeWh W (prodI ys) (3 + 3 * len2))) := fun W k => product_wh a2 ys len2 cap2 W hs2 (by omega) hA2.fits k
  have PA : Hid (∀ a c W, At W a (cA xs ys) → Calls Try.prog 23 #[.slice a len1 c] W (MadeWh W (prodI (cA xs ys)) (3 + 3 * len1))) := fun a c W k => product_wh a (cA xs ys) len1 c W hlA (by omega) iA k
  have PB : Hid (∀ a c W, At W a (cB xs ys) → Calls Try.prog 23 #[.slice a len2 c] W (MadeWh W (prodI (cB xs ys)) (3 + 3 * len2))) := fun a c W k => product_wh a (cB xs ys) len2 c W hlB (by omega) iB k
  have FA : Hid (∀ i, i < len1 → ∃ p x : Nat, Hid (p = (redP (nats xs) (nats ys)).getD i 0) ∧ nth (cA xs ys) i = (p : Int) ∧ nth xs i = (x : Int) ∧ 1 ≤ p ∧ p ≤ 9223372036854775807 ∧ p ∣ x) := fun i hi => left_at hA1.fits h0 i (by omega)
  have FB : Hid (∀ i, i < len2 → ∃ q y : Nat, Hid (q = (redQ (nats xs) (nats ys)).getD i 0) ∧ nth (cB xs ys) i = (q : Int) ∧ nth ys i = (y : Int) ∧ 1 ≤ q ∧ q ≤ 9223372036854775807 ∧ q ∣ y) := fun i hi => left_atQ hA2.fits h0 i (by omega)
  have FC : Hid (∀ i j, i < len1 → j < len2 → Nat.gcd ((redP (nats xs) (nats ys)).getD i 0) ((redQ (nats xs) (nats ys)).getD j 0) = 1) := fun i j hi hj => left_cop h0 (by omega) (by omega)
  have HX : Hid (cmpI (prodI xs * prodI (cB xs ys)) (prodI ys * prodI (cA xs ys)) = 0) := cmpI_eq (cross h0)
  have HA1 : Hid (Arg w a1 len1 cap1 xs) := hA1
  have HA2 : Hid (Arg w a2 len2 cap2 ys) := hA2
  have HE1 : Hid (cE xs ys = 0) := h0
  have HLN : Hid ((cA xs ys).length = len1 ∧ (cB xs ys).length = len2 ∧ len1 ≤ 1024 ∧ len2 ≤ 1024) := ⟨hlA, hlB, by omega, by omega⟩
  have hl1 : len1 ≤ 1024 := by omega
  have hl2 : len2 ≤ 1024 := by omega
  have q1 : ((len1 : Int) != (len1 : Int)) = false := by simp
  have q2 : ((len2 : Int) != (len2 : Int)) = false := by simp
  clear hA1 hA2 h0 z1 z2 hlA hlB iA iB hs1 hs2
  go_enter Try.func6, Try.ntmps6
  go_wp2_with (first
    | (go_at_call 10; (with_reducible refine (R1.out _ _ _ _ w2 k1b k2).mono ?_); rintro e w3 ⟨b3, aa, ab, na, nb, rfl, o1, o2, -⟩; rw [HE1.out]; obtain rfl : len1 = na := HLN.out.1.symm.trans o1.1; obtain rfl : len2 = nb := HLN.out.2.1.symm.trans o2.1; have ja := o1.at; have jb := o2.at; have B3 := B2.trans (b3.mono B2.size))
    | (go_at_call 20; (with_reducible refine (I2.out w1 (HA2.out.below b1)).mono ?_); rintro e w2 ⟨x2, cp2, rfl, k2, b2, -⟩; have k1b := k1.below b2; have B2 := b1.trans (b2.mono b1.size))
    | (go_at_call 20; (with_reducible refine (I1.out w HA1.out).mono ?_); rintro e w1 ⟨x1, cp1, rfl, k1, b1, -⟩))
  have JA : Hid (At w3 aa (cA xs ys)) := ja
  have JB : Hid (At w3 ab (cB xs ys)) := jb
  have J1 : Hid (At w3 a1 xs) := HA1.out.lies.below B3
  have J2 : Hid (At w3 a2 ys) := HA2.out.lies.below B3
  have CA : Hid (∀ k, k < len1 → ∃ b off, aa = some ⟨b, off, none⟩ ∧ w3.cell? ⟨b, off + k, none⟩ = some (.int .i64 (nth (cA xs ys) k))) := fun k hk => by
    obtain ⟨b, off, e, hc⟩ := JA.out.resolve_left (fun e => by have := HLN.out.1; rw [e] at this; simp at this; omega)
    exact ⟨b, off, e, hc k (by rw [HLN.out.1]; exact hk)⟩
  have CB : Hid (∀ k, k < len2 → ∃ b off, ab = some ⟨b, off, none⟩ ∧ w3.cell? ⟨b, off + k, none⟩ = some (.int .i64 (nth (cB xs ys) k))) := fun k hk => by
    obtain ⟨b, off, e, hc⟩ := JB.out.resolve_left (fun e => by have := HLN.out.2.1; rw [e] at this; simp at this; omega)
    exact ⟨b, off, e, hc k (by rw [HLN.out.2.1]; exact hk)⟩
  have C1 : Hid (∀ k, k < len1 → ∃ b off, a1 = some ⟨b, off, none⟩ ∧ w3.cell? ⟨b, off + k, none⟩ = some (.int .i64 (nth xs k))) := fun k hk => by
    have hs := HA1.out.size
    obtain ⟨b, off, e, hc⟩ := J1.out.resolve_left (fun e => by rw [e] at hs; simp at hs; omega)
    exact ⟨b, off, e, hc k (by omega)⟩
  have C2 : Hid (∀ k, k < len2 → ∃ b off, a2 = some ⟨b, off, none⟩ ∧ w3.cell? ⟨b, off + k, none⟩ = some (.int .i64 (nth ys k))) := fun k hk => by
    have hs := HA2.out.size
    obtain ⟨b, off, e, hc⟩ := J2.out.resolve_left (fun e => by rw [e] at hs; simp at hs; omega)
    exact ⟨b, off, e, hc k (by omega)⟩
  have HB3 : Hid (Below w.heap.size w w3) := B3
  clear k1 k2 k1b b1 b2 b3 B2 B3 ja jb o1 o2
  go_loopg [8] len1 (fun gk i wr => ∃ k n : Nat, k ≤ len1 ∧ gk = len1 - k ∧ wr = w3.drewN n ∧ i = .int .i64 k)
  case atStart => exact ⟨0, 0, Nat.zero_le _, rfl, rfl, rfl⟩
  case round =>
    obtain ⟨k, n, hk, rfl, rfl, rfl⟩ := hrel
    by_cases hlt : k < len1
    · obtain ⟨b, off, rfl, hca⟩ := CA.out k hlt
      obtain ⟨b', off', rfl, hc1⟩ := C1.out k hlt
      obtain ⟨p, x, HP, ep, ex, hp1, hp2, hpx⟩ := FA.out k hlt
      rw [ep] at hca
      rw [ex] at hc1
      obtain ⟨m1, m2, m3⟩ := rems hpx
      have hki : (k : Int) < (len1 : Int) := by omega
      have hp0 : ¬ (p : Int) = 0 := by omega
      have hpd : decide ((p : Int) < 1) = false := decide_eq_false (by omega)
      clear ep ex hpx
      go_wp2
      go_quiet (fail)
      go_wp2
      go_loopg [9] len2 (fun gm j wr => ∃ m n : Nat, m ≤ len2 ∧ gm = len2 - m ∧ wr = w3.drewN n ∧ j = .int .i64 m)
      case atStart => exact ⟨0, n + nq, Nat.zero_le _, rfl, by simp, rfl⟩
      case round =>
        obtain ⟨m, n2, hm, rfl, rfl, rfl⟩ := hrel
        by_cases hltm : m < len2
        · obtain ⟨b2, off2, rfl, hcb⟩ := CB.out m hltm
          obtain ⟨b2', off2', rfl, hc2⟩ := C2.out m hltm
          obtain ⟨q, y, HQ, eq, ey, hq1, hq2, hqy⟩ := FB.out m hltm
          rw [eq] at hcb
          rw [ey] at hc2
          obtain ⟨r1, r2, r3⟩ := rems hqy
          have hmi : (m : Int) < (len2 : Int) := by omega
          have hq0 : ¬ (q : Int) = 0 := by omega
          have hqd : decide ((q : Int) < 1) = false := decide_eq_false (by omega)
          have hg : Nat.gcd p q = 1 := by rw [HP.out, HQ.out]; exact FC.out k m hlt hltm
          have rc : ∀ W, Calls Try.prog 21 #[.int .u64 (p : Int), .int .u64 (q : Int)] W fun e w' => e = .returned (.int .u64 1) ∧ W = w' := fun W => by
            have := rcommon_any p q W (by omega) (by omega)
            rw [hg] at this
            exact this
          have u1 : IntKind.u64.wrap (p : Int) = (p : Int) := by rw [IntKind.wrap_u64]; omega
          have u2 : IntKind.u64.wrap (q : Int) = (q : Int) := by rw [IntKind.wrap_u64]; omega
          clear eq ey hqy hg
          go_wp2
          go_quiet (first | (go_at_call 21; (with_reducible refine (rc _).mono ?_); rintro e w' ⟨rfl, rfl⟩; exact ⟨rfl, _, rfl⟩))
          go_wp2
          go_roundg (len2 - (m + 1))
          case measure => omega
          case rel => exact ⟨m + 1, n2 + nq, by omega, rfl, rfl, by go_num⟩
        · have em : len2 = m := by omega
          subst em
          have hmm : ¬ (len2 : Int) < (len2 : Int) := by omega
          go_wp2
          go_roundg (len1 - (k + 1))
          case measure => omega
          case rel => exact ⟨k + 1, n2, by omega, rfl, rfl, by go_num⟩
    · have ek : len1 = k := by omega
      subst ek
      have hkk : ¬ (len1 : Int) < (len1 : Int) := by omega
      have D4 : Below w3.heap.size w3 (w3.drewN n) := bdrew (Below.refl _ _) n
      have B4 : Below w.heap.size w (w3.drewN n) := bdrew HB3.out n
      have JA4 := JA.out.below D4
      have JB4 := JB.out.below D4
      have J14 := J1.out.below D4
      have J24 := J2.out.below D4
      have HJ : Hid (At (w3.drewN n) aa (cA xs ys) ∧ At (w3.drewN n) ab (cB xs ys) ∧ At (w3.drewN n) a1 xs ∧ At (w3.drewN n) a2 ys) := ⟨JA4, JB4, J14, J24⟩
      clear D4 JA4 JB4 J14 J24 JA JB J1 J2 CA CB C1 C2 FA FB FC HB3
      generalize w3.drewN n = w4 at *
      go_wp2_with (first
        | (go_at_call 24; (with_reducible refine (cmp_any _ _ _ _ _ _ _ _ _ _ _ _ _ (hx7.below N11) (hy10.below b11)).mono ?_); rintro e w12 ⟨rfl, b12⟩; rw [HX.out]; have F12 := F11.trans (b12.mono F11.size))
        | (go_at_call 14; (with_reducible refine (awake3 _).mono ?_); rintro e w11 ⟨rfl, b11⟩; have N11 := N10.trans (b11.mono N10.size); have F11 := F10.trans (b11.mono F10.size); have X11 := X7.later N11 X7.lt; have Y11 := Y10.later b11 Y10.lt; have x0 := X11.c0; have x1 := X11.c1; have y0 := Y11.c0; have y1 := Y11.c1)
        | (go_at_call 22; (with_reducible refine (times_any _ _ _ _ _ _ _ _ _ _ _ _ w9 (hwh8.below b9) hwh9 (by omega)).mono ?_); rintro e w10 ⟨m10, ad10, l10, p10, ds10, rfl, hwh10, b10, -⟩; have Y10 := var2_new w10 (.bool m10) (.slice ad10 l10 p10) 40; have hy10 := hwh10.below ((Below.refl w10.heap.size w10).alloc (Nat.le_refl _) (.cells #[.bool m10, .slice ad10 l10 p10] 40)); have N10' := N9.trans (b10.mono N9.size); have N10 := N10'.alloc N10'.size (.cells #[.bool m10, .slice ad10 l10 p10] 40); have F10' := F9.trans (b10.mono F9.size); have F10 := F10'.alloc F10'.size (.cells #[.bool m10, .slice ad10 l10 p10] 40))
        | (go_at_call 23; (with_reducible refine (PA.out _ _ w8 (HJ.out.1.below M8)).mono ?_); rintro e w9 ⟨m9, ad9, l9, p9, ds9, rfl, hwh9, b9, k9⟩; have N9 := b8.trans (b9.mono b8.size); have F9 := F8.trans (b9.mono F8.size))
        | (go_at_call 23; (with_reducible refine (P2.out _ (HJ.out.2.2.2.below M7a)).mono ?_); rintro e w8 ⟨m8, ad8, l8, p8, ds8, rfl, hwh8, b8, k8⟩; have M8 := M7a.trans (b8.mono M7a.size); have F8 := F7a.trans (b8.mono F7a.size))
        | (go_at_call 22; (with_reducible refine (times_any _ _ _ _ _ _ _ _ _ _ _ _ w6 (hwh5.below b6) hwh6 (by omega)).mono ?_); rintro e w7 ⟨m7, ad7, l7, p7, ds7, rfl, hwh7, b7, -⟩; have X7 := var2_new w7 (.bool m7) (.slice ad7 l7 p7) 40; have hx7 := hwh7.below ((Below.refl w7.heap.size w7).alloc (Nat.le_refl _) (.cells #[.bool m7, .slice ad7 l7 p7] 40)); have M7 := M6.trans (b7.mono M6.size); have M7a := M7.alloc M7.size (.cells #[.bool m7, .slice ad7 l7 p7] 40); have F7 := F6.trans (b7.mono F6.size); have F7a := F7.alloc F7.size (.cells #[.bool m7, .slice ad7 l7 p7] 40))
        | (go_at_call 23; (with_reducible refine (PB.out _ _ w5 (HJ.out.2.1.below b5)).mono ?_); rintro e w6 ⟨m6, ad6, l6, p6, ds6, rfl, hwh6, b6, k6⟩; have M6 := b5.trans (b6.mono b5.size); have F6 := F5.trans (b6.mono F5.size))
        | (go_at_call 23; (with_reducible refine (P1.out w4 HJ.out.2.2.1).mono ?_); rintro e w5 ⟨m5, ad5, l5, p5, ds5, rfl, hwh5, b5, k5⟩; have F5 := B4.trans (b5.mono B4.size)))
      go_ret
      exact ⟨rfl, F12⟩

theorem ccoprime_any (a1 : Option Addr) (len1 cap1 : Nat) (xs : List Int) (a2 : Option Addr) (len2 cap2 : Nat) (ys : List Int) (w : World) (hA1 : Arg w a1 len1 cap1 xs) (hA2 : Arg w a2 len2 cap2 ys) :
    Calls Try.prog 6 #[.slice a1 len1 cap1, .slice a2 len2 cap2] w fun e w' => e = .returned (.bool true) ∧ Below w.heap.size w w' := by
  by_cases h0 : cE xs ys = 0
  · exact ccoprime_ok a1 len1 cap1 xs a2 len2 cap2 ys w hA1 hA2 h0
  · exact ccoprime_bad a1 len1 cap1 xs a2 len2 cap2 ys w hA1 hA2 h0
end Go.Proofs.Ytgjeihdibcjjcaa

/- A firing that gives or fails; the walk through the statement ActorsFails. -/
import Derived.Test.YthgblljokonejaaActN
import Derived.Test.YthgblljokonejaaActG
import Derived.Test.YthgblljokonejaaActR2
import Derived.Test.YthgblljokonejaaActO
namespace Go.Proofs.Ythgblljokonejaa
open Go.ChangeShapes Go.WideShapes Go.ChangeAt Go.RowKit

theorem okq_one {t : Nat} {zs : List Int} {m : Int} (hk : okS t zs = (decide (zs.length = 1) && wB (nth zs 0) m)) (ok : okS t zs = true) : zs.length = 1 ∧ 1 ≤ nth zs 0 ∧ nth zs 0 ≤ m := by
  rw [hk, Bool.and_eq_true] at ok
  exact ⟨of_decide_eq_true ok.1, wB_bound ok.2⟩
theorem okq_woven {t : Nat} {zs : List Int} (hk : okS t zs = (decide (zs.length = 2) && wovenB (nth zs 0) (nth zs 1))) (ok : okS t zs = true) : zs.length = 2 ∧ (1 ≤ nth zs 0 ∧ nth zs 0 ≤ 16) ∧ (1 ≤ nth zs 1 ∧ nth zs 1 ≤ 64) ∧ nth zs 0 * nth zs 1 ≤ 64 := by
  rw [hk, Bool.and_eq_true] at ok
  have h2 := ok.2
  unfold wovenB at h2
  rw [Bool.and_eq_true, Bool.and_eq_true] at h2
  exact ⟨of_decide_eq_true ok.1, wB_bound h2.1, wB_bound h2.2.1, of_decide_eq_true h2.2.2⟩
theorem woven_nat {n m : Int} (h : n * m ≤ 64) (hn : 1 ≤ n) (hm : 1 ≤ m) : n.toNat * m.toNat ≤ 64 := by
  obtain ⟨N, rfl⟩ := Int.eq_ofNat_of_zero_le (show 0 ≤ n by omega)
  obtain ⟨M, rfl⟩ := Int.eq_ofNat_of_zero_le (show 0 ≤ m by omega)
  simp only [Int.toNat_natCast]
  exact_mod_cast h
theorem one_small {x : Int} {l : List Int} (h : l ∈ [[x]]) : l.length ≤ 64 := by
  rw [List.mem_singleton] at h; subst h; simp
theorem give_small : ∀ t, 1 ≤ t ∧ t ≤ 11 → ∀ (zs ks : List Int) (I : List (List Int)) (p : List (List Int) × List Int), okS t zs = true → giveS t zs ks I = some p → ∀ l ∈ p.1, l.length ≤ 64 := by
  refine eleven ?_ ?_ ?_ ?_ ?_ ?_ ?_ ?_ ?_ ?_ ?_
  · intro zs ks I p ok h l hl
    obtain ⟨y, -, rfl⟩ := Option.map_eq_some_iff.1 (show (dotO 0 zs (nth (nthL I 0) 0 :: ks)).map _ = some p from h)
    exact one_small hl
  · intro zs ks I p ok h l hl
    obtain rfl := Option.some.inj h
    have := okq_one (m := 64) rfl ok
    rw [List.mem_singleton] at hl; subst hl; rw [up_len]; omega
  · intro zs ks I p ok h l hl
    obtain rfl := Option.some.inj h
    exact one_small hl
  · intro zs ks I p ok h l hl
    obtain rfl := Option.some.inj h
    have h2 := okq_woven rfl ok
    rw [List.mem_singleton] at hl; subst hl; rw [weave_len]
    exact woven_nat h2.2.2.2 h2.2.1.1 h2.2.2.1.1
  · intro zs ks I p ok h l hl
    obtain rfl := Option.some.inj h
    have h2 := okq_woven rfl ok
    obtain ⟨i, -, rfl⟩ := List.mem_map.1 (show l ∈ (List.range _).map _ from hl)
    simp only [List.length_map, List.length_range]
    omega
  · intro zs ks I p ok h l hl
    obtain ⟨y, -, rfl⟩ := Option.map_eq_some_iff.1 (show (sumO 0 (I.map (nth · 0))).map _ = some p from h)
    exact one_small hl
  · intro zs ks I p ok h l hl
    replace h : (if nth (nthL I 1) 0 = 0 ∨ (nth (nthL I 0) 0 = -9223372036854775808 ∧ nth (nthL I 1) 0 = -1) then none else some ([[(nth (nthL I 0) 0).tdiv (nth (nthL I 1) 0)]], ks)) = some p := h
    split at h
    · cases h
    · obtain rfl := Option.some.inj h; exact one_small hl
  · intro zs ks I p ok h l hl
    replace h : (if fitB (nth ks 0 + nth (nthL I 0) 0) = true then some ([[nth ks 0 + nth (nthL I 0) 0]], [nth ks 0 + nth (nthL I 0) 0]) else none) = some p := h
    split at h
    · obtain rfl := Option.some.inj h; exact one_small hl
    · cases h
  · intro zs ks I p ok h l hl
    obtain rfl := Option.some.inj h
    obtain ⟨-, rfl⟩ := List.mem_replicate.1 hl
    exact one_small (x := nth (nthL I 0) 0) (List.mem_singleton.2 rfl)
  · intro zs ks I p ok h l hl
    replace h : (if fitB (nth ks 0 + nth zs 1) = true then some ([[nth ks 0]], [nth ks 0 + nth zs 1]) else none) = some p := h
    split at h
    · obtain rfl := Option.some.inj h; exact one_small hl
    · cases h
  · intro zs ks I p ok h l hl
    obtain rfl := Option.some.inj h
    cases hl
theorem fire_small {t : Nat} (ht : 1 ≤ t ∧ t ≤ 11) {zs ks ks' : List Int} {I O : List (List Int)} (ok : okS t zs = true) (h : fireS t zs ks I = (0, O, ks')) {j : Nat} (hj : j < O.length) : (nthL O j).length ≤ 64 := by
  unfold fireS at h
  split at h
  · cases hg : giveS t zs ks I with
    | none => rw [hg] at h; exact absurd (congrArg Prod.fst h) (show ¬ (70 : Int) = 0 by decide)
    | some p =>
      rw [hg] at h
      obtain rfl : p.1 = O := congrArg (fun q => q.2.1) h
      exact give_small t ht zs ks I p ok hg _ (nthL_mem hj)
  · exact absurd (congrArg Prod.fst h) (show ¬ (1 : Int) = 0 by decide)
theorem give_count : ∀ t, 1 ≤ t ∧ t ≤ 11 → ∀ (zs ks : List Int) (I : List (List Int)) (p : List (List Int) × List Int), okS t zs = true → giveS t zs ks I = some p → p.1.length ≤ 16 := by
  refine eleven ?_ ?_ ?_ ?_ ?_ ?_ ?_ ?_ ?_ ?_ ?_
  · intro zs ks I p ok h
    obtain ⟨y, -, rfl⟩ := Option.map_eq_some_iff.1 (show (dotO 0 zs (nth (nthL I 0) 0 :: ks)).map _ = some p from h)
    exact (show 1 ≤ 16 by decide)
  · intro zs ks I p ok h
    obtain rfl := Option.some.inj h
    exact (show 1 ≤ 16 by decide)
  · intro zs ks I p ok h
    obtain rfl := Option.some.inj h
    exact (show 1 ≤ 16 by decide)
  · intro zs ks I p ok h
    obtain rfl := Option.some.inj h
    exact (show 1 ≤ 16 by decide)
  · intro zs ks I p ok h
    obtain rfl := Option.some.inj h
    have h2 := okq_woven rfl ok
    show (partS _ _ _).length ≤ 16
    rw [part_len]; omega
  · intro zs ks I p ok h
    obtain ⟨y, -, rfl⟩ := Option.map_eq_some_iff.1 (show (sumO 0 (I.map (nth · 0))).map _ = some p from h)
    exact (show 1 ≤ 16 by decide)
  · intro zs ks I p ok h
    replace h : (if nth (nthL I 1) 0 = 0 ∨ (nth (nthL I 0) 0 = -9223372036854775808 ∧ nth (nthL I 1) 0 = -1) then none else some ([[(nth (nthL I 0) 0).tdiv (nth (nthL I 1) 0)]], ks)) = some p := h
    split at h
    · cases h
    · obtain rfl := Option.some.inj h; exact (show 1 ≤ 16 by decide)
  · intro zs ks I p ok h
    replace h : (if fitB (nth ks 0 + nth (nthL I 0) 0) = true then some ([[nth ks 0 + nth (nthL I 0) 0]], [nth ks 0 + nth (nthL I 0) 0]) else none) = some p := h
    split at h
    · obtain rfl := Option.some.inj h; exact (show 1 ≤ 16 by decide)
    · cases h
  · intro zs ks I p ok h
    obtain rfl := Option.some.inj h
    have := okq_one (m := 16) rfl ok
    show (List.replicate _ _).length ≤ 16
    rw [List.length_replicate]; omega
  · intro zs ks I p ok h
    replace h : (if fitB (nth ks 0 + nth zs 1) = true then some ([[nth ks 0]], [nth ks 0 + nth zs 1]) else none) = some p := h
    split at h
    · obtain rfl := Option.some.inj h; exact (show 1 ≤ 16 by decide)
    · cases h
  · intro zs ks I p ok h
    obtain rfl := Option.some.inj h
    exact (show 0 ≤ 16 by decide)
theorem fire_count {t : Nat} (ht : 1 ≤ t ∧ t ≤ 11) {zs ks ks' : List Int} {I O : List (List Int)} (ok : okS t zs = true) (h : fireS t zs ks I = (0, O, ks')) : O.length ≤ 16 := by
  unfold fireS at h
  split at h
  · cases hg : giveS t zs ks I with
    | none => rw [hg] at h; exact absurd (congrArg Prod.fst h) (show ¬ (70 : Int) = 0 by decide)
    | some p =>
      rw [hg] at h
      obtain rfl : p.1 = O := congrArg (fun q => q.2.1) h
      exact give_count t ht zs ks I p ok hg
  · exact absurd (congrArg Prod.fst h) (show ¬ (1 : Int) = 0 by decide)
theorem keep_small {t : Nat} (ht : 1 ≤ t ∧ t ≤ 11) {zs ks : List Int} (ok : okS t zs = true) (h : KeepOk t zs ks) : ks.length ≤ 16 := by
  by_cases h1 : t = 1
  · subst h1
    have := wB_bound (show wB (zs.length : Int) 16 = true from ok)
    have := h.2.1 rfl
    omega
  · by_cases h8 : t = 8 ∨ t = 10
    · have := h.2.2.1 h8; omega
    · rw [h.2.2.2 h1 (fun e => h8 (.inl e)) (fun e => h8 (.inr e))]; exact Nat.zero_le _
theorem of_good {t : Nat} {zs : List Int} (h : (ofS t zs).2.2 = 0) : (1 ≤ t ∧ t ≤ 11) ∧ okS t zs = true := by
  unfold ofS at h
  by_cases h1 : 1 ≤ t ∧ t ≤ 11
  · rw [if_pos h1] at h
    by_cases h2 : okS t zs = true
    · exact ⟨h1, h2⟩
    · rw [if_neg h2] at h; exact absurd h (by decide)
  · rw [if_neg h1] at h; exact absurd h (by decide)
theorem rnew7_good (t : Nat) (ht : 1 ≤ t ∧ t ≤ 11) (a : Option Addr) (zs : List Int) (len cap : Nat) (w : World) (hA : Arg w a len cap zs) (ok : okS t zs = true) : Calls Try.prog 9 #[.int .u8 (t : Int), .slice a len cap] w (RNewEnd w t zs) := by
  by_cases h1 : t = 1
  · subst h1; exact rnew7_1 a zs len cap w hA ok
  by_cases h8 : t = 8
  · subst h8; exact rnew7_8 a zs len cap w hA ok
  by_cases h10 : t = 10
  · subst h10; exact rnew7_10 a zs len cap w hA ok
  exact rnew7_o t ht a zs len cap w hA ok h1 h8 h10
def RGood (w : World) (t : Nat) (zs : List Int) (e : Ending) (w' : World) : Prop := ∃ v, e = .returned (.tuple #[v, .int .i64 0]) ∧ IsRA w' t zs (keepS t zs) 0 v ∧ Below w.heap.size w w'
def RBad (w : World) (f : Int) (e : Ending) (w' : World) : Prop := e = .returned (.tuple #[.agg #[.int .u8 0, .slice none 0 0, .slice none 0 0, .slice none 0 0, .slice none 0 0, .int .i64 0], .int .i64 f]) ∧ Below w.heap.size w w'
theorem rnew7_yes (t : Nat) (a : Option Addr) (zs : List Int) (len cap : Nat) (w : World) (hA : Arg w a len cap zs) (h : (ofS t zs).2.2 = 0) : Calls Try.prog 9 #[.int .u8 (t : Int), .slice a len cap] w (RGood w t zs) :=
  (rnew7_good t (of_good h).1 a zs len cap w hA (of_good h).2).mono fun e w' hr => by
    rcases hr with ⟨-, h1⟩ | ⟨h1, -⟩
    · exact h1
    · exact absurd h h1
theorem rnew7_no (t : Nat) (a : Option Addr) (zs : List Int) (len cap : Nat) (w : World) (ht : t ≤ 255) (hA : Arg w a len cap zs) {f : Int} (hf : (ofS t zs).2.2 = f) (h : f ≠ 0) : Calls Try.prog 9 #[.int .u8 (t : Int), .slice a len cap] w (RBad w f) := by
  subst hf
  exact (rnew7_bad t a zs len cap w ht hA h).mono fun e w' hr => by
    rcases hr with ⟨h1, -⟩ | ⟨-, h1⟩
    · exact absurd h1 h
    · exact h1
theorem fire_cases (t : Nat) (zs ks : List Int) (I : List (List Int)) : (∃ cd, cd ≠ 0 ∧ fireS t zs ks I = (cd, [], ks)) ∨ ∃ O ks', fireS t zs ks I = (0, O, ks') := by
  unfold fireS
  by_cases h : takesS t zs I = true
  · rw [if_pos h]
    cases hg : giveS t zs ks I with
    | none => exact .inl ⟨70, by decide, rfl⟩
    | some p => exact .inr ⟨p.1, p.2, rfl⟩
  · rw [if_neg h]; exact .inl ⟨1, by decide, rfl⟩
/-- A firing that fails, and one that gives. -/
def FailE (F : Nat → Prop) (V : World) (B K t : Nat) (zs ks : List Int) (n : Nat) (cd : Int) (e : Ending) (w' : World) : Prop :=
  ∃ x c F', e = .returned (.tuple #[.slice x 0 c, .int .i64 cd]) ∧ Bod F' w' B K t zs ks n ∧ (∀ k, F' k → F k ∨ V.heap.size ≤ k) ∧ But K V w'
def GoodE (F : Nat → Prop) (V : World) (B K t : Nat) (zs ks : List Int) (n : Nat) (O : List (List Int)) (e : Ending) (w' : World) : Prop :=
  ∃ x c A C F', e = .returned (.tuple #[.slice x O.length c, .int .i64 0]) ∧ OutT V.heap.size w' A C x O ∧ Bod F' w' B K t zs ks n ∧ (∀ k, F' k → F k ∨ V.heap.size ≤ k) ∧ But K V w'
theorem fail_of {F : Nat → Prop} {V : World} {B K t : Nat} {zs ks : List Int} {n : Nat} {I : List (List Int)} {cd : Int} {e : Ending} {w' : World} (h : FireEnd F V B K t zs ks n I e w') (hr : fireS t zs ks I = (cd, [], ks)) (hc : cd ≠ 0) : FailE F V B K t zs ks n cd e w' := by
  unfold FireEnd at h
  rw [hr] at h
  obtain ⟨x, c, A, C, F', he, hO, hB, hF, hb⟩ := h
  simp only [if_neg hc] at hB
  exact ⟨x, c, F', he, hB, fun k hk => (hF k hk).imp id And.left, hb⟩
theorem good_of {F : Nat → Prop} {V : World} {B K t : Nat} {zs ks ks' : List Int} {n : Nat} {I O : List (List Int)} {e : Ending} {w' : World} (h : FireEnd F V B K t zs ks n I e w') (hr : fireS t zs ks I = (0, O, ks')) : GoodE F V B K t zs ks' (n + 1) O e w' := by
  unfold FireEnd at h
  rw [hr] at h
  obtain ⟨x, c, A, C, F', he, hO, hB, hF, hb⟩ := h
  exact ⟨x, c, A, C, F', he, hO, hB, fun k hk => (hF k hk).imp id And.left, hb⟩
theorem Bod.small {F : Nat → Prop} {w : World} {B K t : Nat} {zs ks : List Int} {n : Nat} (h : Bod F w B K t zs ks n) : ks.length ≤ 16 := by
  obtain ⟨a1, a2, a3, a4, c1, c2, c3, c4, h⟩ := h.kin
  exact keep_small h.tag h.ok h.keep
theorem OutT.below {B : Nat} {w w' : World} {A : Nat → Option Addr} {C : Nat → Nat} {x : Option Addr} {O : List (List Int)} (h : OutT B w A C x O) (hb : Below w.heap.size w w') : OutT B w' A C x O := h.keep (fun k _ hk => hb.block k hk) hb.size
theorem OutT.but {B K : Nat} {w w' : World} {A : Nat → Option Addr} {C : Nat → Nat} {x : Option Addr} {O : List (List Int)} (h : OutT B w A C x O) (hb : But K w w') (hK : K < B) : OutT B w' A C x O := h.keep (fun k h1 hk => hb.block k hk (by omega)) hb.size
theorem CapR.but {B K : Nat} {w w' : World} {a : Option Addr} {c : Nat} {zs : List Int} (h : CapR B w a c zs) (hb : But K w w') (hK : K < B) : CapR B w' a c zs := h.keep fun x hx => hb.block _ (h.lt x hx).2 (by have := (h.lt x hx).1; omega)
theorem Bod.lt {F : Nat → Prop} {w : World} {B K t : Nat} {zs ks : List Int} {n : Nat} (h : Bod F w B K t zs ks n) : K < w.heap.size := h.kin.mem.2 K h.kin.mem.1
set_option maxRecDepth 100000 in
set_option maxHeartbeats 4000000 in
theorem actorsFails_walk (t : Nat) (a : Option Addr) (len cap : Nat) (zs : List Int) (s : Option Addr) (m scap : Nat) (S : List OpL) (w : World) (ht : t ≤ 255) (hA : Arg w a len cap zs) (hS : ArgO w s m S) :
    Calls Try.prog 4 #[.int .u8 (t : Int), .slice a len cap, .slice s m scap] w fun e w' => e = .returned (.bool true) ∧ Below w.heap.size w w' := by
  have AW : Hid (∀ V, Calls Try.prog 11 #[] V fun e w' => e = .returned (.bool true) ∧ Below V.heap.size V w') := fun V => awake7 V
  obtain ⟨f, hf⟩ : ∃ f, (ofS t zs).2.2 = f := ⟨_, rfl⟩
  by_cases h0 : f = 0
  · subst h0
    have NW : Hid (∀ V, Below w.heap.size w V → Calls Try.prog 8 #[.int .u8 (t : Int), .slice a len cap] V (Fresh V t zs (keepS t zs))) := fun V hb => (new_any t a zs len cap V ht hA.size hA.fits hA.none (hA.lies.below hb)).mono fun _ _ h => fresh_of h hf rfl
    have RN : Hid (∀ V, Below w.heap.size w V → Calls Try.prog 9 #[.int .u8 (t : Int), .slice a len cap] V (RGood V t zs)) := fun V hb => rnew7_yes t a zs len cap V (hA.below hb) hf
    have tt := (of_good hf).1
    have OK := hidden6 (of_good hf).2
    have ST : Hid (∀ F V B K ks n, Bod F V B K t zs ks n → Calls Try.prog 15 #[.pointer (some ⟨B, 0, none⟩)] V (RowEnd V ks)) := fun F V B K ks n h => bstate_any t tt F V B K zs ks n h
    have FD : Hid (∀ F V B K ks n, Bod F V B K t zs ks n → Calls Try.prog 16 #[.pointer (some ⟨B, 0, none⟩)] V fun e w' => e = .returned (.int .i64 (n : Int)) ∧ w' = V) := fun F V B K ks n h => bfired_any t tt F V B K zs ks n h
    have FI : Hid (∀ F V B K ks n x l c I, Bod F V B K t zs ks n → ArgL V x l I → n < 4611686018427387904 → Calls Try.prog 17 #[.pointer (some ⟨B, 0, none⟩), .slice x l c] V (FireEnd F V B K t zs ks n I)) := fun F V B K ks n x l c I h hI hn => bfire_any t tt F V B K zs ks n x l c I h hI hn
    have SI : Hid (∀ V x c y d l, At V x l → At V y l → l.length ≤ 4611686018427387904 → Calls Try.prog 18 #[.slice x l.length c, .slice y l.length d] V fun e w' => e = .returned (.bool true) ∧ Below V.heap.size V w') := fun V x c y d l h1 h2 hm =>
      (same_any x y l l.length c d V rfl hm h1 h2).mono fun e w' ⟨n, h1, h2⟩ => ⟨h1, by rw [h2]; exact bdrew (Below.refl _ _) n⟩
    have HS := hidden6 hS
    have hm := hS.reach
    have B0 := hidden6 (Below.refl w.heap.size w)
    have mI : (m : Int) ≤ 4398046511104 := by omega
    generalize keepS t zs = k0 at NW RN
    clear hA hS hf
    go_enter Try.func4, Try.ntmps4
    go_wp2_with (first
      | (go_at_call 9; (with_reducible refine (RN.out w2 BB2.out).mono ?_); rintro e w3 ⟨rv, rfl, ⟨rp, rcp, ri, rci, ro, rco, rk, rck, rfl, -⟩, b3⟩; unfold RA)
      | (go_at_call 8; (with_reducible refine (NW.out w1 BB1.out).mono ?_); rintro e w2 ⟨B2, K2, G, rfl, h2, hG, b2⟩; have BB2 := hidden6 (BB1.out.trans (b2.mono BB1.out.size)))
      | (go_at_call 8; (with_reducible refine (NW.out w B0.out).mono ?_); rintro e w1 ⟨B1, K1, F, rfl, h1, hF, b1⟩; have BB1 := hidden6 b1))
    have SD := hidden6 ((duo_start h1 hF h2 hG b2).below b3)
    have BB3 := hidden6 (BB2.out.trans (b3.mono BB2.out.size))
    have BX := hidden6 ((Below.refl w3.heap.size w3).alloc (Nat.le_refl _) (.cells #[.int .u8 (t : Int), .slice rp zs.length rcp, .slice ri (insS t zs).length rci, .slice ro (outsS t zs).length rco, .slice rk (keepS t zs).length rck, .int .i64 0] 31))
    clear h1 hF h2 hG b1 b2 b3 NW RN BB1 BB2 B0
    go_loopg [13] m (fun gk v wr => ∃ (k n : Nat) (ks : List Int) (F G : Nat → Prop), k ≤ m ∧ gk = m - k ∧ v = .int .i64 (k : Int) ∧ n ≤ k ∧ Duo w.heap.size F G wr B1 K1 t zs ks n B2 K2 t zs ks n ∧ Below w.heap.size w wr)
    case atStart => exact ⟨0, 0, _, _, _, Nat.zero_le _, rfl, rfl, Nat.le_refl _, SD.out.below BX.out, BB3.out.trans (BX.out.mono BB3.out.size)⟩
    case round =>
      clear SD BB3 BX
      obtain ⟨k, n, ks, F, G, hk, rfl, rfl, hnk, hD, hB⟩ := hrel
      have HD := hidden6 hD
      have HB := hidden6 hB
      clear hD hB
      by_cases hlt : k < m
      · have hki : (k : Int) < (m : Int) := by omega
        have hz := HS.out.size
        rcases HS.out.lies with h0 | ⟨b, off, rfl, hc⟩
        · rw [h0] at hz; simp at hz; omega
        obtain ⟨-, x, l, c, cI, hI⟩ := hc k (by omega)
        have CI := hidden6 cI
        have HI := hidden6 hI
        generalize (nthO S k).2 = I at HI hI
        have hn62 : n < 4611686018427387904 := by omega
        have q0 : (n : Int) + 1 ≤ 4398046511105 := by omega
        have q1 : ((n : Int) != (n : Int)) = false := by simp
        have q2 : (((n : Int) + 1) != ((n : Int) + 1)) = false := by simp
        have sm := HD.out.one.small
        clear hc hz hI cI
        rcases fire_cases t zs ks I with ⟨cd, hcd, hf⟩ | ⟨O, ks', hf⟩
        · have HF := hidden6 hf
          have q3 : (cd != 0) = true := by simpa using hcd
          clear hf
          go_wp2_with (first
            | (go_at_call 18; (with_reducible refine (SI.out w3 x3 c3 x1 c1 ks m3.at (S2.out.later b3).at (by omega)).mono ?_); rintro e w4 ⟨rfl, b4⟩; have D4 := hidden6 (D3.out.below b4); have BB4 := hidden6 (BB3.out.trans (b4.mono BB3.out.size)))
            | (go_at_call 15; (with_reducible refine (ST.out F2 w2 B1 K1 ks n D2.out.one).mono ?_); rintro e w3 ⟨x3, c3, rfl, m3, b3⟩; have D3 := hidden6 (D2.out.below b3); have BB3 := hidden6 (BB2.out.trans (b3.mono BB2.out.size)))
            | (go_at_call 16; (with_reducible refine (FD.out F2 w4 B1 K1 ks n D4.out.one).mono ?_); rintro e v ⟨rfl, hv⟩; rw [hv]; clear hv)
            | (go_at_call 17; (with_reducible refine (FI.out F w1 B1 K1 ks n x l c I D1.out.one (HI.out.below BB1.out).argL hn62).mono ?_); intro e w2 h2; obtain ⟨x2, c2, F2, rfl, hB2, hF2, b2⟩ := fail_of h2 HF.out hcd; have D2 := hidden6 (D1.out.fire1 hB2 hF2 b2); have BB2 := hidden6 (but_below b2 BB1.out D1.out.l1); have S2 := hidden6 (m1.but b2 HD.out.one.lt); clear h2 hB2 hF2)
            | (go_at_call 16; (with_reducible refine (FD.out F w1 B1 K1 ks n D1.out.one).mono ?_); rintro e v ⟨rfl, hv⟩; rw [hv]; clear hv)
            | (go_at_call 15; (with_reducible refine (ST.out F wr B1 K1 ks n HD.out.one).mono ?_); rintro e w1 ⟨x1, c1, rfl, m1, b1⟩; have D1 := hidden6 (HD.out.below b1); have BB1 := hidden6 (HB.out.trans (b1.mono HB.out.size)); have cI1 := cell_keep6 BB1.out CI.out))
          go_roundg (m - (k + 1))
          case measure => omega
          case rel => exact ⟨k + 1, n, ks, _, _, by omega, rfl, by go_num, by omega, D4.out, BB4.out⟩
        · have HF := hidden6 hf
          have q4 : ((O.length : Int) != (O.length : Int)) = false := by simp
          have hO16 := fire_count tt OK.out hf
          have hO16i : (O.length : Int) ≤ 16 := by omega
          clear hf
          go_wp2_with (first
            | (go_at_call 16; (with_reducible refine (FD.out F2 w3 B1 K1 ks' (n + 1) D3.out.one).mono ?_); rintro e v ⟨rfl, hv⟩; rw [hv]; clear hv)
            | (go_at_call 17; (with_reducible refine (FI.out G w2 B2 K2 ks n x l c I D2.out.two (HI.out.below BB2.out).argL hn62).mono ?_); intro e w3 h3; obtain ⟨x3, c3, A3, C3, G3, rfl, hO3, hB3, hG3, b3⟩ := good_of h3 HF.out; have D3 := hidden6 (D2.out.swap.fire1 hB3 hG3 b3).swap; have BB3 := hidden6 (but_below b3 BB2.out D2.out.l2); have O2 := hidden6 (hO2.but b3 D1.out.two.lt); have O3 := hidden6 hO3; clear h3 hB3 hG3 hO3)
            | (go_at_call 17; (with_reducible refine (FI.out F w1 B1 K1 ks n x l c I D1.out.one (HI.out.below BB1.out).argL hn62).mono ?_); intro e w2 h2; obtain ⟨x2, c2, A2, C2, F2, rfl, hO2, hB2, hF2, b2⟩ := good_of h2 HF.out; have D2 := hidden6 (D1.out.fire1 hB2 hF2 b2); have BB2 := hidden6 (but_below b2 BB1.out D1.out.l1); have cI2 := cell_keep6 BB2.out CI.out; clear h2 hB2 hF2)
            | (go_at_call 16; (with_reducible refine (FD.out F w1 B1 K1 ks n D1.out.one).mono ?_); rintro e v ⟨rfl, hv⟩; rw [hv]; clear hv)
            | (go_at_call 15; (with_reducible refine (ST.out F wr B1 K1 ks n HD.out.one).mono ?_); rintro e w1 ⟨x1, c1, rfl, m1, b1⟩; have D1 := hidden6 (HD.out.below b1); have BB1 := hidden6 (HB.out.trans (b1.mono HB.out.size)); have cI1 := cell_keep6 BB1.out CI.out))
          clear cI1 cI2
          go_loopg [20] O.length (fun gk v wq => ∃ j : Nat, j ≤ O.length ∧ gk = O.length - j ∧ v = .int .i64 (j : Int) ∧ Below w3.heap.size w3 wq)
          case atStart => exact ⟨0, Nat.zero_le _, rfl, rfl, Below.refl _ _⟩
          case round =>
            obtain ⟨j, hj, rfl, rfl, hb⟩ := hrel
            have HQ := hidden6 hb
            clear hb
            by_cases hjl : j < O.length
            · have hji : (j : Int) < (O.length : Int) := by omega
              have o2 := O2.out.below HQ.out
              have o3 := O3.out.below HQ.out
              have R2 := hidden6 (o2.rows j hjl)
              have R3 := hidden6 (o3.rows j hjl)
              have hsm := fire_small tt OK.out HF.out hjl
              rcases o2.tab with h0 | ⟨g2, rfl, -, -, t2, -⟩
              · rw [h0] at hjl; simp at hjl
              rcases o3.tab with h0 | ⟨g3, rfl, -, -, t3, -⟩
              · rw [h0] at hjl; simp at hjl
              have u2 := t2 j hjl
              have u3 := t3 j hjl
              clear t2 t3 o2 o3
              generalize nthL O j = lj at R2 R3 u2 u3 hsm
              have SQj : Hid (∀ n, Calls Try.prog 18 #[.slice (A2 j) lj.length (C2 j), .slice (A3 j) lj.length (C3 j)] (wr.drewN n) fun e w' => e = .returned (.bool true) ∧ ∃ k, w' = (wr.drewN n).drewN k) := fun n => (same_any _ _ lj lj.length _ _ _ rfl (by omega) (R2.out.at.below (bdrew (Below.refl _ _) n)) (R3.out.at.below (bdrew (Below.refl _ _) n))).mono fun _ _ ⟨n, he, hw⟩ => ⟨he, n, hw⟩
              go_wp2
              go_quiet (first | (go_at_call 18; (with_reducible refine Calls.quiet_of (SQj.out _))))
              go_wp2
              go_roundg (O.length - (j + 1))
              case measure => omega
              case rel => exact ⟨j + 1, by omega, rfl, by go_num, bdrew HQ.out nq⟩
            · have hji : ¬ (j : Int) < (O.length : Int) := by omega
              go_wp2
              go_roundg (m - (k + 1))
              case measure => omega
              case rel => exact ⟨k + 1, n + 1, ks', _, _, by omega, rfl, by go_num, by omega, D3.out.below HQ.out, BB3.out.trans (HQ.out.mono BB3.out.size)⟩
      · have ek : k = m := by omega
        subst ek
        have hki : ¬ (k : Int) < (k : Int) := by omega
        have sm := HD.out.one.small
        have q1 : ((n : Int) == (n : Int)) = true := by simp
        go_wp2_with (first
          | (go_at_call 11; (with_reducible refine (AW.out w4).mono ?_); rintro e w6 ⟨rfl, b6⟩)
          | (go_at_call 18; (with_reducible refine (SI.out w2 x1 c1 x2 c2 ks (m1.later b2).at m2.at (by omega)).mono ?_); rintro e w4 ⟨rfl, b4⟩)
          | (go_at_call 15; (with_reducible refine (ST.out G w1 B2 K2 ks n (HD.out.two.below b1)).mono ?_); rintro e w2 ⟨x2, c2, rfl, m2, b2⟩)
          | (go_at_call 15; (with_reducible refine (ST.out F wr B1 K1 ks n HD.out.one).mono ?_); rintro e w1 ⟨x1, c1, rfl, m1, b1⟩)
          | (go_at_call 16; (with_reducible refine (FD.out G wr B2 K2 ks n HD.out.two).mono ?_); rintro e v ⟨rfl, hv⟩; rw [hv]; clear hv)
          | (go_at_call 16; (with_reducible refine (FD.out F wr B1 K1 ks n HD.out.one).mono ?_); rintro e v ⟨rfl, hv⟩; rw [hv]; clear hv))
        go_ret
        have p1 := HB.out.trans (b1.mono HB.out.size)
        have p2 := p1.trans (b2.mono p1.size)
        have p4 := p2.trans (b4.mono p2.size)
        exact ⟨rfl, p4.trans (b6.mono p4.size)⟩
  · have NW : Hid (∀ V, Below w.heap.size w V → Calls Try.prog 8 #[.int .u8 (t : Int), .slice a len cap] V (Refused V f)) := fun V hb => (new_any t a zs len cap V ht hA.size hA.fits hA.none (hA.lies.below hb)).mono fun _ _ h => refused_of h hf h0
    have RN : Hid (∀ V, Below w.heap.size w V → Calls Try.prog 9 #[.int .u8 (t : Int), .slice a len cap] V (RBad V f)) := fun V hb => rnew7_no t a zs len cap V ht (hA.below hb) hf h0
    have B0 := hidden6 (Below.refl w.heap.size w)
    have q1 : (f != f) = false := by simp
    have q2 : (f == 0) = false := by simpa using h0
    have q3 : (f != 0) = true := by simpa using h0
    clear hA hS hf
    go_enter Try.func4, Try.ntmps4
    go_wp2_with (first
      | (go_at_call 11; (with_reducible refine (AW.out _).mono ?_); rintro e w6 ⟨rfl, b6⟩)
      | (go_at_call 9; (with_reducible refine (RN.out w2 BB2.out).mono ?_); rintro e w3 ⟨rfl, b3⟩; have BB3 := hidden6 (BB2.out.trans (b3.mono BB2.out.size)))
      | (go_at_call 8; (with_reducible refine (NW.out w1 BB1.out).mono ?_); rintro e w2 ⟨rfl, b2⟩; have BB2 := hidden6 (BB1.out.trans (b2.mono BB1.out.size)))
      | (go_at_call 8; (with_reducible refine (NW.out w B0.out).mono ?_); rintro e w1 ⟨rfl, b1⟩; have BB1 := hidden6 b1))
    go_ret
    have p3 := BB3.out.trans (((Below.refl w3.heap.size w3).alloc (Nat.le_refl _) (.cells #[.int .u8 0, .slice none 0 0, .slice none 0 0, .slice none 0 0, .slice none 0 0, .int .i64 0] 31)).mono BB3.out.size)
    exact ⟨rfl, p3.trans (b6.mono p3.size)⟩
end Go.Proofs.Ythgblljokonejaa

/- The document's number, whatever the digits. (Written by tmpl/merge.py of LRN, LRNa to LRNe.) -/
import Derived.Test.YtpmooflijlkppaaDoorLWh
import Derived.Test.YtpmooflijlkppaaDoorBigPlus
import Derived.Test.YtpmooflijlkppaaDoorBigNeg
import Derived.Test.YtpmooflijlkppaaDoorBigIntB
import Derived.Test.YtpmooflijlkppaaDoorLDig
namespace Go.Proofs.YtpmooflijlkppaaDoor
open Go.ChangeShapes Go.WideShapes Go.ChangeAt Go.RowKit

theorem plus_said {x y : Int} {W : World} {u v : Value} {n m : Nat} (h1 : IsWh W x n u) (h2 : IsWh W y m v) (hs : n + m < 1000000000) : Calls Tryd.prog 62 #[u, v] W fun e w' => ∃ r, e = .returned r ∧ Below W.heap.size W w' ∧ IsWh w' (x + y) (n + m + 1) r := by
  obtain ⟨m1, a1, l1, p1, d1, rfl, w1, b1⟩ := h1
  obtain ⟨m2, a2, l2, p2, d2, rfl, w2, b2⟩ := h2
  refine (plus_any m1 m2 a1 a2 l1 l2 p1 p2 d1 d2 x y W w1 w2 (by omega)).mono ?_
  rintro e w' ⟨m, a, l, p, ds, he, hw, hb, hl⟩
  exact ⟨_, he, hb, m, a, l, p, ds, rfl, hw, by omega⟩
/-- How the document's number ends. -/
def RNum (neg : Bool) (ds : List UInt8) (w : World) (e : Ending) (w' : World) : Prop :=
  ∃ x b, e = .returned (.tuple #[.int .i64 x, .bool b]) ∧ ((numO neg ds = some x ∧ b = true) ∨ (numO neg ds = none ∧ b = false)) ∧ Below w.heap.size w w'
theorem num_long {neg : Bool} {ds : List UInt8} (hd : allD ds) (hl : 19 < ds.length) : numO neg ds = none := by
  unfold numO
  by_cases h48 : by8 ds 0 = 48
  · have : oneB neg ds = false := by
      unfold oneB
      rw [decide_eq_true h48, decide_eq_false (by omega)]; rfl
    rw [this]; rfl
  · obtain ⟨b1, b2⟩ := natS_back ds.length ds (Nat.le_refl _) (by intro e; subst e; simp at hl) hd h48
    have : ¬ (decV 0 ds < 10000000000000000000) := by
      intro h
      have h2 := natS_len 19 (decV 0 ds).toNat (by omega)
      rw [b1] at h2
      omega
    have hf : fits8 (signed neg (decV 0 ds)) = false := by
      unfold fits8
      cases neg
      · show (decide (-9223372036854775808 ≤ decV 0 ds) && decide (decV 0 ds ≤ 9223372036854775807)) = false
        rw [decide_eq_false (by omega : ¬ (decV 0 ds ≤ 9223372036854775807)), Bool.and_false]
      · show (decide (-9223372036854775808 ≤ -decV 0 ds) && decide (-decV 0 ds ≤ 9223372036854775807)) = false
        rw [decide_eq_false (by omega : ¬ (-9223372036854775808 ≤ -decV 0 ds)), Bool.false_and]
    rw [hf, Bool.and_false]; rfl
theorem dec_take {ds : List UInt8} {k : Nat} (h : k < ds.length) : decV 0 (ds.take (k + 1)) = decV 0 (ds.take k) * 10 + (by8 ds k - 48) := by
  rw [List.take_add_one, List.getElem?_eq_getElem h, decV_append]
  unfold by8
  rw [List.getD_eq_getElem?_getD, List.getElem?_eq_getElem h]
  rfl
theorem wh_zero {W : World} : Wh W false none 0 0 [] 0 := by
  refine ⟨⟨rfl, Or.inl rfl, fun _ => ⟨rfl, rfl⟩, Nat.le_refl _, by decide, ?_⟩, fun h => absurd rfl h, rfl, fun h => by cases h⟩
  intro d hd
  cases hd
set_option maxRecDepth 100000 in
set_option maxHeartbeats 20000000 in
theorem rnumber_plain1 (ds : List UInt8) (w : World) (hd : allD ds) (hl : ds.length ≤ 19) (h0 : 0 < ds.length) (ho : oneB false ds = true)  (h1 : ds.length = 1) : Calls Tryd.prog 45 #[.string (str (ds))] w (RNum false ds w) := by
  have e1 := str_size (ds)
  have e2 := str_size ds
  have e3 := str_list ds
  have e4 : (ByteArray.mk #[48]).toList = ([48] : List UInt8) := str_list [48]
  obtain ⟨T, hT⟩ : ∃ T : Int, T = 10 := ⟨_, rfl⟩
  have T10 : Hid (∀ W, Calls Tryd.prog 64 #[.int .i64 10] W fun e w' => ∃ v, e = .returned v ∧ Below W.heap.size W w' ∧ IsWh w' T 3 v) := fun W => by rw [hT]; exact of_said (of_any 10 W (by decide))
  have HT := hidden hT
  clear hT
  have HDG : Hid (∀ k, k < ds.length → 0 ≤ by8 ds k - 48 ∧ by8 ds k - 48 ≤ 9) := fun k hk => by
    have h1 := hd _ (List.getElem_mem hk)
    unfold by8
    rw [List.getD_eq_getElem?_getD, List.getElem?_eq_getElem hk]
    show 0 ≤ ((ds[k].toNat : Int)) - 48 ∧ ((ds[k].toNat : Int)) - 48 ≤ 9
    omega
  have hlI : (ds.length : Int) ≤ 19 := by omega
  have hl0 : (0 : Int) < (ds.length : Int) := by omega
  have c19 : ¬ ((19 : Int) < (ds.length : Int)) := by omega
  have c19' : decide ((19 : Int) < (ds.length : Int)) = false := decide_eq_false c19
  have HV0 := hidden (var2_new w (.bool false) (.slice none 0 0) 99)
  have HB0 : Hid (Below w.heap.size w (w.alloc (.cells #[.bool false, .slice none 0 0] 99))) := (Below.refl _ _).alloc (Nat.le_refl _) _
  have HFIN : Hid (∀ x, x = signed false (decV 0 ds) → (numO false ds = some (fitV x) ∧ fitB x = true) ∨ (numO false ds = none ∧ fitB x = false)) := fun x hx => by
    subst hx
    unfold numO
    rw [ho, Bool.true_and]
    have hfb : fitB (signed false (decV 0 ds)) = fits8 (signed false (decV 0 ds)) := by unfold fitB fits8; by_cases ha : -9223372036854775808 ≤ signed false (decV 0 ds) <;> by_cases hb : signed false (decV 0 ds) ≤ 9223372036854775807 <;> simp [ha, hb]
    cases hf : fits8 (signed false (decV 0 ds)) with
    | true =>
      rw [hf] at hfb
      refine Or.inl ⟨?_, hfb⟩
      unfold fitV
      rw [if_pos hfb]
      rfl
    | false =>
      rw [hf] at hfb
      exact Or.inr ⟨rfl, hfb⟩
  have g0 := str_get ds 0 (by rw [e2]; exact h0)
  have hdg := HDG.out 0 h0
  have x45 : ¬ (by8 ds 0 = 45) := by omega
  have x45' : decide (by8 ds 0 = 45) = false := decide_eq_false x45
  clear ho hd
  have d1 : ¬ ((1 : Int) < (ds.length : Int)) := by omega
  have d1' : decide ((1 : Int) < (ds.length : Int)) = false := decide_eq_false d1
  clear h1
  go_enter Tryd.func45, Tryd.ntmps45
  go_wp2
  go_loopg [7] ds.length (fun gk i wr => ∃ (k : Nat) (x : Int) (m : Bool) (ad : Option Addr) (l p : Nat) (zs : List Int), k ≤ ds.length ∧ gk = ds.length - k ∧ i = .int .i64 k ∧ x = decV 0 (ds.take k) ∧ Below w.heap.size w wr ∧ Var2 wr w.heap.size (.bool m) (.slice ad l p) ∧ Wh wr m ad l p zs x ∧ l ≤ 7 * k)
  case atStart => exact ⟨0, 0, false, none, 0, 0, [], Nat.zero_le _, rfl, rfl, rfl, HB0.out, HV0.out, wh_zero, Nat.le_refl _⟩
  case round =>
    clear HV0 HB0
    obtain ⟨k, x, m, ad, l, p, zs, hk, rfl, rfl, hx, hbel, v3, hwh, hlb⟩ := hrel
    have HX2 := hidden hx
    clear hx
    by_cases hlt : k < ds.length
    · have hki : (k : Int) < (ds.length : Int) := by omega
      have gi := str_get ds k (by rw [e2]; exact hlt)
      obtain ⟨dv, hdv⟩ : ∃ dv : Int, by8 ds k - 48 = dv := ⟨_, rfl⟩
      have hdb := HDG.out k hlt
      rw [hdv] at hdb
      have hb8 : by8 ds k = 48 + dv := by omega
      rw [hb8] at gi
      have HNX : Hid (x * T + dv = decV 0 (ds.take (k + 1))) := by show _ = _; rw [dec_take hlt, ← HX2.out, hdv, HT.out]
      have zsz : (str ds).size = ds.length := e2
      have Od : Hid (∀ W, Calls Tryd.prog 64 #[.int .i64 dv] W (MadeWh W dv 3)) := fun W => of_any _ W (by omega)
      have wu8 : IntKind.u8.wrap (48 + dv - 48) = dv := by rw [IntKind.wrap_u8']; omega
      have wi64 : IntKind.i64.wrap dv = dv := by rw [IntKind.wrap_i64]; omega
      obtain ⟨B0, hB0⟩ : ∃ B0, w.heap.size = B0 := ⟨_, rfl⟩
      rw [hB0] at v3 hbel ⊢
      clear hdv hb8 HX2
      go_wp2
      refine wp_region_said 10 (fun i u v => match i with
          | 0 => IsWh u x (7 * k) v
          | 1 => IsWh u T 3 v
          | 2 => IsWh u (x * T) (7 * k + 3) v
          | 3 => v = .string (str ds)
          | 4 => v = .int .i64 (k : Int)
          | 5 => v = .int .u8 (48 + dv)
          | 6 => v = .int .u8 dv
          | 7 => v = .int .i64 dv
          | 8 => IsWh u dv 3 v
          | 9 => IsWh u (x * T + dv) (7 * k + 3 + 3 + 1) v
          | _ => True) (by kernel_rfl) (by kernel_rfl) (by kernel_rfl) (by kernel_rfl) ?_ ?_ ?_
      · intro i w v w' h hb
        match i, h with
        | 0, h => exact IsWh.later h hb
        | 1, h => exact IsWh.later h hb
        | 2, h => exact IsWh.later h hb
        | 3, h => exact h
        | 4, h => exact h
        | 5, h => exact h
        | 6, h => exact h
        | 7, h => exact h
        | 8, h => exact IsWh.later h hb
        | 9, h => exact IsWh.later h hb
        | _ + 10, _ => trivial
      · intro i o ρ w' hi ho hb hc hf hfr hdep
        match i, hi with
        | 0, _ =>
          simp only [List.getElem?_toArray, List.getElem?_cons_zero, Option.some.injEq] at ho
          subst ho
          have ts : ρ (.tmp 6) = .pointer (some ⟨B0, 0, none⟩) := hfr 6 (by kernel_rfl)
          have G := v3.later hb v3.lt
          have c0 := G.c0
          have c1 := G.c1
          simp [go_sem, ts, c0, c1]
          exact ⟨Below.refl _ _, m, ad, l, p, zs, rfl, hwh.below hb, hlb⟩
        | 1, _ =>
          simp only [List.getElem?_toArray, List.getElem?_cons_zero, List.getElem?_cons_succ, Option.some.injEq] at ho
          subst ho
          simp [go_sem, hf, hc]
          exact ⟨rfl, T10.out _⟩
        | 2, _ =>
          simp only [List.getElem?_toArray, List.getElem?_cons_zero, List.getElem?_cons_succ, Option.some.injEq] at ho
          subst ho
          obtain ⟨m0, a0, l0, p0, d0, e0, x0, y0⟩ : IsWh w' x (7 * k) (ρ (.tmp 41)) := hdep 0 41 (by kernel_rfl) (by kernel_rfl)
          obtain ⟨m1, a1, l1, p1, d1, e1, x1, y1⟩ : IsWh w' T 3 (ρ (.tmp 42)) := hdep 1 42 (by kernel_rfl) (by kernel_rfl)
          simp [go_sem, e0, e1, hf]
          exact ⟨rfl, times_said ⟨m0, a0, l0, p0, d0, rfl, x0, y0⟩ ⟨m1, a1, l1, p1, d1, rfl, x1, y1⟩ (by omega)⟩
        | 3, _ =>
          simp only [List.getElem?_toArray, List.getElem?_cons_zero, List.getElem?_cons_succ, Option.some.injEq] at ho
          subst ho
          have ts : ρ (.tmp 5) = .string (str ds) := hfr 5 (by kernel_rfl)
          simp [go_sem, ts]
          exact ⟨Below.refl _ _, rfl⟩
        | 4, _ =>
          simp only [List.getElem?_toArray, List.getElem?_cons_zero, List.getElem?_cons_succ, Option.some.injEq] at ho
          subst ho
          have ts : ρ (.tmp 7) = .int .i64 (k : Int) := hfr 7 (by kernel_rfl)
          simp [go_sem, ts]
          exact ⟨Below.refl _ _, rfl⟩
        | 5, _ =>
          simp only [List.getElem?_toArray, List.getElem?_cons_zero, List.getElem?_cons_succ, Option.some.injEq] at ho
          subst ho
          have t1 : ρ (.tmp 44) = .string (str ds) := hdep 3 44 (by kernel_rfl) (by kernel_rfl)
          have t2 : ρ (.tmp 45) = .int .i64 (k : Int) := hdep 4 45 (by kernel_rfl) (by kernel_rfl)
          simp [go_sem, t1, t2, hki, zsz, gi]
          exact ⟨Below.refl _ _, rfl⟩
        | 6, _ =>
          simp only [List.getElem?_toArray, List.getElem?_cons_zero, List.getElem?_cons_succ, Option.some.injEq] at ho
          subst ho
          have ts : ρ (.tmp 46) = .int .u8 (48 + dv) := hdep 5 46 (by kernel_rfl) (by kernel_rfl)
          simp [go_sem, ts, hc]
          exact ⟨Below.refl _ _, by show Value.int _ _ = _; rw [wu8]⟩
        | 7, _ =>
          simp only [List.getElem?_toArray, List.getElem?_cons_zero, List.getElem?_cons_succ, Option.some.injEq] at ho
          subst ho
          have ts : ρ (.tmp 47) = .int .u8 dv := hdep 6 47 (by kernel_rfl) (by kernel_rfl)
          simp [go_sem, ts, wi64]
          exact ⟨Below.refl _ _, rfl⟩
        | 8, _ =>
          simp only [List.getElem?_toArray, List.getElem?_cons_zero, List.getElem?_cons_succ, Option.some.injEq] at ho
          subst ho
          have ts : ρ (.tmp 48) = .int .i64 dv := hdep 7 48 (by kernel_rfl) (by kernel_rfl)
          simp [go_sem, ts, hf]
          exact ⟨rfl, of_said (Od.out _)⟩
        | 9, _ =>
          simp only [List.getElem?_toArray, List.getElem?_cons_zero, List.getElem?_cons_succ, Option.some.injEq] at ho
          subst ho
          obtain ⟨m0, a0, l0, p0, d0, e0, x0, y0⟩ : IsWh w' (x * T) (7 * k + 3) (ρ (.tmp 43)) := hdep 2 43 (by kernel_rfl) (by kernel_rfl)
          obtain ⟨m1, a1, l1, p1, d1, e1, x1, y1⟩ : IsWh w' dv 3 (ρ (.tmp 49)) := hdep 8 49 (by kernel_rfl) (by kernel_rfl)
          simp [go_sem, e0, e1, hf]
          exact ⟨rfl, plus_said (n := 7 * k + 3) (m := 3) ⟨m0, a0, l0, p0, d0, rfl, x0, y0⟩ ⟨m1, a1, l1, p1, d1, rfl, x1, y1⟩ (by omega)⟩
      · intro V w9 q9 hS
        obtain ⟨m0, a0, l0, p0, d0, e0, -, -⟩ : IsWh w9 x (7 * k) (V 0) := hS 0 (by decide)
        obtain ⟨m1, a1, l1, p1, d1, e1, -, -⟩ : IsWh w9 T 3 (V 1) := hS 1 (by decide)
        obtain ⟨m2, a2, l2, p2, d2, e2, -, -⟩ : IsWh w9 (x * T) (7 * k + 3) (V 2) := hS 2 (by decide)
        have e3 : V 3 = .string (str ds) := hS 3 (by decide)
        have e4 : V 4 = .int .i64 (k : Int) := hS 4 (by decide)
        have e5 : V 5 = .int .u8 (48 + dv) := hS 5 (by decide)
        have e6 : V 6 = .int .u8 dv := hS 6 (by decide)
        have e7 : V 7 = .int .i64 dv := hS 7 (by decide)
        obtain ⟨m8, a8, l8, p8, d8, e8, -, -⟩ : IsWh w9 dv 3 (V 8) := hS 8 (by decide)
        obtain ⟨m9, a9, l9, p9, d9, e9, hw9, hl9⟩ : IsWh w9 (x * T + dv) (7 * k + 3 + 3 + 1) (V 9) := hS 9 (by decide)
        simp only [List.drop_succ_cons, List.drop_zero, List.take_succ_cons, List.take_zero, puts, e0, e1, e2, e3, e4, e5, e6, e7, e8, e9]
        clear hS e0 e1 e2 e3 e4 e5 e6 e7 e8 e9 V
        have R := v3.later q9 v3.lt
        have r0 := R.c0
        have r1 := R.c1
        have f0 := R.f0
        have f1 := R.f1
        have P3 := R.put (.bool m9) (.slice a9 l9 p9)
        have PW := hw9.store2 R (fun _ h => by cases h) (fun _ h => by cases h) (.bool m9) (.slice a9 l9 p9)
        have PB := ((hbel.trans (q9.mono (by rw [← hB0]; exact hbel.size))).setCell (p := ⟨B0, 0, none⟩) (Nat.le_refl _) (.bool m9)).setCell (p := ⟨B0, 1, none⟩) (Nat.le_refl _) (.slice a9 l9 p9)
        clear v3 hwh R hw9 q9 hbel
        go_wp2
        subst hB0
        go_roundg (ds.length - (k + 1))
        case measure => omega
        case rel => exact ⟨k + 1, x * T + dv, m9, a9, l9, p9, d9, by omega, rfl, by go_num, HNX.out, PB, P3, PW, by omega⟩
    · have ek : k = ds.length := by omega
      subst ek
      have hkk : ¬ ((ds.length : Int) < (ds.length : Int)) := by omega
      have HXX : Hid (x = decV 0 ds) := by have := HX2.out; rw [List.take_length] at this; exact this
      clear HX2 HDG T10
      have c0 := v3.c0
      have c1 := v3.c1
      have f0 := v3.f0
      have f1 := v3.f1
      go_wp2_with (go_at_call 66; refine (toInt_any _ _ _ _ _ _ _ hwh).mono ?_; rintro e w1 ⟨rfl, hb1⟩)
      all_goals exact bodyPost_ret (v := .tuple #[.int .i64 (fitV x), .bool (fitB x)]) (by simp [results, Tryd.results45, go_sem]) rfl ⟨fitV x, fitB x, rfl, HFIN.out x HXX.out, hbel.trans (hb1.mono hbel.size)⟩
set_option maxRecDepth 100000 in
set_option maxHeartbeats 20000000 in
theorem rnumber_plain2 (ds : List UInt8) (w : World) (hd : allD ds) (hl : ds.length ≤ 19) (h0 : 0 < ds.length) (ho : oneB false ds = true) (h48 : by8 ds 0 ≠ 48) (h1 : 1 < ds.length) : Calls Tryd.prog 45 #[.string (str (ds))] w (RNum false ds w) := by
  have e1 := str_size (ds)
  have e2 := str_size ds
  have e3 := str_list ds
  have e4 : (ByteArray.mk #[48]).toList = ([48] : List UInt8) := str_list [48]
  obtain ⟨T, hT⟩ : ∃ T : Int, T = 10 := ⟨_, rfl⟩
  have T10 : Hid (∀ W, Calls Tryd.prog 64 #[.int .i64 10] W fun e w' => ∃ v, e = .returned v ∧ Below W.heap.size W w' ∧ IsWh w' T 3 v) := fun W => by rw [hT]; exact of_said (of_any 10 W (by decide))
  have HT := hidden hT
  clear hT
  have HDG : Hid (∀ k, k < ds.length → 0 ≤ by8 ds k - 48 ∧ by8 ds k - 48 ≤ 9) := fun k hk => by
    have h1 := hd _ (List.getElem_mem hk)
    unfold by8
    rw [List.getD_eq_getElem?_getD, List.getElem?_eq_getElem hk]
    show 0 ≤ ((ds[k].toNat : Int)) - 48 ∧ ((ds[k].toNat : Int)) - 48 ≤ 9
    omega
  have hlI : (ds.length : Int) ≤ 19 := by omega
  have hl0 : (0 : Int) < (ds.length : Int) := by omega
  have c19 : ¬ ((19 : Int) < (ds.length : Int)) := by omega
  have c19' : decide ((19 : Int) < (ds.length : Int)) = false := decide_eq_false c19
  have HV0 := hidden (var2_new w (.bool false) (.slice none 0 0) 99)
  have HB0 : Hid (Below w.heap.size w (w.alloc (.cells #[.bool false, .slice none 0 0] 99))) := (Below.refl _ _).alloc (Nat.le_refl _) _
  have HFIN : Hid (∀ x, x = signed false (decV 0 ds) → (numO false ds = some (fitV x) ∧ fitB x = true) ∨ (numO false ds = none ∧ fitB x = false)) := fun x hx => by
    subst hx
    unfold numO
    rw [ho, Bool.true_and]
    have hfb : fitB (signed false (decV 0 ds)) = fits8 (signed false (decV 0 ds)) := by unfold fitB fits8; by_cases ha : -9223372036854775808 ≤ signed false (decV 0 ds) <;> by_cases hb : signed false (decV 0 ds) ≤ 9223372036854775807 <;> simp [ha, hb]
    cases hf : fits8 (signed false (decV 0 ds)) with
    | true =>
      rw [hf] at hfb
      refine Or.inl ⟨?_, hfb⟩
      unfold fitV
      rw [if_pos hfb]
      rfl
    | false =>
      rw [hf] at hfb
      exact Or.inr ⟨rfl, hfb⟩
  have g0 := str_get ds 0 (by rw [e2]; exact h0)
  have hdg := HDG.out 0 h0
  have x45 : ¬ (by8 ds 0 = 45) := by omega
  have x45' : decide (by8 ds 0 = 45) = false := decide_eq_false x45
  clear ho hd
  have d1 : (1 : Int) < (ds.length : Int) := by omega
  have d1' : decide ((1 : Int) < (ds.length : Int)) = true := decide_eq_true d1
  have xb : (by8 ds 0 == 48) = false := by simpa using h48
  have x48 : decide (by8 ds 0 = 48) = false := decide_eq_false h48
  clear h1
  go_enter Tryd.func45, Tryd.ntmps45
  go_wp2
  go_loopg [7] ds.length (fun gk i wr => ∃ (k : Nat) (x : Int) (m : Bool) (ad : Option Addr) (l p : Nat) (zs : List Int), k ≤ ds.length ∧ gk = ds.length - k ∧ i = .int .i64 k ∧ x = decV 0 (ds.take k) ∧ Below w.heap.size w wr ∧ Var2 wr w.heap.size (.bool m) (.slice ad l p) ∧ Wh wr m ad l p zs x ∧ l ≤ 7 * k)
  case atStart => exact ⟨0, 0, false, none, 0, 0, [], Nat.zero_le _, rfl, rfl, rfl, HB0.out, HV0.out, wh_zero, Nat.le_refl _⟩
  case round =>
    clear HV0 HB0
    obtain ⟨k, x, m, ad, l, p, zs, hk, rfl, rfl, hx, hbel, v3, hwh, hlb⟩ := hrel
    have HX2 := hidden hx
    clear hx
    by_cases hlt : k < ds.length
    · have hki : (k : Int) < (ds.length : Int) := by omega
      have gi := str_get ds k (by rw [e2]; exact hlt)
      obtain ⟨dv, hdv⟩ : ∃ dv : Int, by8 ds k - 48 = dv := ⟨_, rfl⟩
      have hdb := HDG.out k hlt
      rw [hdv] at hdb
      have hb8 : by8 ds k = 48 + dv := by omega
      rw [hb8] at gi
      have HNX : Hid (x * T + dv = decV 0 (ds.take (k + 1))) := by show _ = _; rw [dec_take hlt, ← HX2.out, hdv, HT.out]
      have zsz : (str ds).size = ds.length := e2
      have Od : Hid (∀ W, Calls Tryd.prog 64 #[.int .i64 dv] W (MadeWh W dv 3)) := fun W => of_any _ W (by omega)
      have wu8 : IntKind.u8.wrap (48 + dv - 48) = dv := by rw [IntKind.wrap_u8']; omega
      have wi64 : IntKind.i64.wrap dv = dv := by rw [IntKind.wrap_i64]; omega
      obtain ⟨B0, hB0⟩ : ∃ B0, w.heap.size = B0 := ⟨_, rfl⟩
      rw [hB0] at v3 hbel ⊢
      clear hdv hb8 HX2
      go_wp2
      refine wp_region_said 10 (fun i u v => match i with
          | 0 => IsWh u x (7 * k) v
          | 1 => IsWh u T 3 v
          | 2 => IsWh u (x * T) (7 * k + 3) v
          | 3 => v = .string (str ds)
          | 4 => v = .int .i64 (k : Int)
          | 5 => v = .int .u8 (48 + dv)
          | 6 => v = .int .u8 dv
          | 7 => v = .int .i64 dv
          | 8 => IsWh u dv 3 v
          | 9 => IsWh u (x * T + dv) (7 * k + 3 + 3 + 1) v
          | _ => True) (by kernel_rfl) (by kernel_rfl) (by kernel_rfl) (by kernel_rfl) ?_ ?_ ?_
      · intro i w v w' h hb
        match i, h with
        | 0, h => exact IsWh.later h hb
        | 1, h => exact IsWh.later h hb
        | 2, h => exact IsWh.later h hb
        | 3, h => exact h
        | 4, h => exact h
        | 5, h => exact h
        | 6, h => exact h
        | 7, h => exact h
        | 8, h => exact IsWh.later h hb
        | 9, h => exact IsWh.later h hb
        | _ + 10, _ => trivial
      · intro i o ρ w' hi ho hb hc hf hfr hdep
        match i, hi with
        | 0, _ =>
          simp only [List.getElem?_toArray, List.getElem?_cons_zero, Option.some.injEq] at ho
          subst ho
          have ts : ρ (.tmp 6) = .pointer (some ⟨B0, 0, none⟩) := hfr 6 (by kernel_rfl)
          have G := v3.later hb v3.lt
          have c0 := G.c0
          have c1 := G.c1
          simp [go_sem, ts, c0, c1]
          exact ⟨Below.refl _ _, m, ad, l, p, zs, rfl, hwh.below hb, hlb⟩
        | 1, _ =>
          simp only [List.getElem?_toArray, List.getElem?_cons_zero, List.getElem?_cons_succ, Option.some.injEq] at ho
          subst ho
          simp [go_sem, hf, hc]
          exact ⟨rfl, T10.out _⟩
        | 2, _ =>
          simp only [List.getElem?_toArray, List.getElem?_cons_zero, List.getElem?_cons_succ, Option.some.injEq] at ho
          subst ho
          obtain ⟨m0, a0, l0, p0, d0, e0, x0, y0⟩ : IsWh w' x (7 * k) (ρ (.tmp 41)) := hdep 0 41 (by kernel_rfl) (by kernel_rfl)
          obtain ⟨m1, a1, l1, p1, d1, e1, x1, y1⟩ : IsWh w' T 3 (ρ (.tmp 42)) := hdep 1 42 (by kernel_rfl) (by kernel_rfl)
          simp [go_sem, e0, e1, hf]
          exact ⟨rfl, times_said ⟨m0, a0, l0, p0, d0, rfl, x0, y0⟩ ⟨m1, a1, l1, p1, d1, rfl, x1, y1⟩ (by omega)⟩
        | 3, _ =>
          simp only [List.getElem?_toArray, List.getElem?_cons_zero, List.getElem?_cons_succ, Option.some.injEq] at ho
          subst ho
          have ts : ρ (.tmp 5) = .string (str ds) := hfr 5 (by kernel_rfl)
          simp [go_sem, ts]
          exact ⟨Below.refl _ _, rfl⟩
        | 4, _ =>
          simp only [List.getElem?_toArray, List.getElem?_cons_zero, List.getElem?_cons_succ, Option.some.injEq] at ho
          subst ho
          have ts : ρ (.tmp 7) = .int .i64 (k : Int) := hfr 7 (by kernel_rfl)
          simp [go_sem, ts]
          exact ⟨Below.refl _ _, rfl⟩
        | 5, _ =>
          simp only [List.getElem?_toArray, List.getElem?_cons_zero, List.getElem?_cons_succ, Option.some.injEq] at ho
          subst ho
          have t1 : ρ (.tmp 44) = .string (str ds) := hdep 3 44 (by kernel_rfl) (by kernel_rfl)
          have t2 : ρ (.tmp 45) = .int .i64 (k : Int) := hdep 4 45 (by kernel_rfl) (by kernel_rfl)
          simp [go_sem, t1, t2, hki, zsz, gi]
          exact ⟨Below.refl _ _, rfl⟩
        | 6, _ =>
          simp only [List.getElem?_toArray, List.getElem?_cons_zero, List.getElem?_cons_succ, Option.some.injEq] at ho
          subst ho
          have ts : ρ (.tmp 46) = .int .u8 (48 + dv) := hdep 5 46 (by kernel_rfl) (by kernel_rfl)
          simp [go_sem, ts, hc]
          exact ⟨Below.refl _ _, by show Value.int _ _ = _; rw [wu8]⟩
        | 7, _ =>
          simp only [List.getElem?_toArray, List.getElem?_cons_zero, List.getElem?_cons_succ, Option.some.injEq] at ho
          subst ho
          have ts : ρ (.tmp 47) = .int .u8 dv := hdep 6 47 (by kernel_rfl) (by kernel_rfl)
          simp [go_sem, ts, wi64]
          exact ⟨Below.refl _ _, rfl⟩
        | 8, _ =>
          simp only [List.getElem?_toArray, List.getElem?_cons_zero, List.getElem?_cons_succ, Option.some.injEq] at ho
          subst ho
          have ts : ρ (.tmp 48) = .int .i64 dv := hdep 7 48 (by kernel_rfl) (by kernel_rfl)
          simp [go_sem, ts, hf]
          exact ⟨rfl, of_said (Od.out _)⟩
        | 9, _ =>
          simp only [List.getElem?_toArray, List.getElem?_cons_zero, List.getElem?_cons_succ, Option.some.injEq] at ho
          subst ho
          obtain ⟨m0, a0, l0, p0, d0, e0, x0, y0⟩ : IsWh w' (x * T) (7 * k + 3) (ρ (.tmp 43)) := hdep 2 43 (by kernel_rfl) (by kernel_rfl)
          obtain ⟨m1, a1, l1, p1, d1, e1, x1, y1⟩ : IsWh w' dv 3 (ρ (.tmp 49)) := hdep 8 49 (by kernel_rfl) (by kernel_rfl)
          simp [go_sem, e0, e1, hf]
          exact ⟨rfl, plus_said (n := 7 * k + 3) (m := 3) ⟨m0, a0, l0, p0, d0, rfl, x0, y0⟩ ⟨m1, a1, l1, p1, d1, rfl, x1, y1⟩ (by omega)⟩
      · intro V w9 q9 hS
        obtain ⟨m0, a0, l0, p0, d0, e0, -, -⟩ : IsWh w9 x (7 * k) (V 0) := hS 0 (by decide)
        obtain ⟨m1, a1, l1, p1, d1, e1, -, -⟩ : IsWh w9 T 3 (V 1) := hS 1 (by decide)
        obtain ⟨m2, a2, l2, p2, d2, e2, -, -⟩ : IsWh w9 (x * T) (7 * k + 3) (V 2) := hS 2 (by decide)
        have e3 : V 3 = .string (str ds) := hS 3 (by decide)
        have e4 : V 4 = .int .i64 (k : Int) := hS 4 (by decide)
        have e5 : V 5 = .int .u8 (48 + dv) := hS 5 (by decide)
        have e6 : V 6 = .int .u8 dv := hS 6 (by decide)
        have e7 : V 7 = .int .i64 dv := hS 7 (by decide)
        obtain ⟨m8, a8, l8, p8, d8, e8, -, -⟩ : IsWh w9 dv 3 (V 8) := hS 8 (by decide)
        obtain ⟨m9, a9, l9, p9, d9, e9, hw9, hl9⟩ : IsWh w9 (x * T + dv) (7 * k + 3 + 3 + 1) (V 9) := hS 9 (by decide)
        simp only [List.drop_succ_cons, List.drop_zero, List.take_succ_cons, List.take_zero, puts, e0, e1, e2, e3, e4, e5, e6, e7, e8, e9]
        clear hS e0 e1 e2 e3 e4 e5 e6 e7 e8 e9 V
        have R := v3.later q9 v3.lt
        have r0 := R.c0
        have r1 := R.c1
        have f0 := R.f0
        have f1 := R.f1
        have P3 := R.put (.bool m9) (.slice a9 l9 p9)
        have PW := hw9.store2 R (fun _ h => by cases h) (fun _ h => by cases h) (.bool m9) (.slice a9 l9 p9)
        have PB := ((hbel.trans (q9.mono (by rw [← hB0]; exact hbel.size))).setCell (p := ⟨B0, 0, none⟩) (Nat.le_refl _) (.bool m9)).setCell (p := ⟨B0, 1, none⟩) (Nat.le_refl _) (.slice a9 l9 p9)
        clear v3 hwh R hw9 q9 hbel
        go_wp2
        subst hB0
        go_roundg (ds.length - (k + 1))
        case measure => omega
        case rel => exact ⟨k + 1, x * T + dv, m9, a9, l9, p9, d9, by omega, rfl, by go_num, HNX.out, PB, P3, PW, by omega⟩
    · have ek : k = ds.length := by omega
      subst ek
      have hkk : ¬ ((ds.length : Int) < (ds.length : Int)) := by omega
      have HXX : Hid (x = decV 0 ds) := by have := HX2.out; rw [List.take_length] at this; exact this
      clear HX2 HDG T10
      have c0 := v3.c0
      have c1 := v3.c1
      have f0 := v3.f0
      have f1 := v3.f1
      go_wp2_with (go_at_call 66; refine (toInt_any _ _ _ _ _ _ _ hwh).mono ?_; rintro e w1 ⟨rfl, hb1⟩)
      all_goals exact bodyPost_ret (v := .tuple #[.int .i64 (fitV x), .bool (fitB x)]) (by simp [results, Tryd.results45, go_sem]) rfl ⟨fitV x, fitB x, rfl, HFIN.out x HXX.out, hbel.trans (hb1.mono hbel.size)⟩
set_option maxRecDepth 100000 in
set_option maxHeartbeats 20000000 in
theorem rnumber_minus1 (ds : List UInt8) (w : World) (hd : allD ds) (hl : ds.length ≤ 19) (h0 : 0 < ds.length) (ho : oneB true ds = true) (h48 : by8 ds 0 ≠ 48) (h1 : ds.length = 1) : Calls Tryd.prog 45 #[.string (str (45 :: ds))] w (RNum true ds w) := by
  have e1 := str_size (45 :: ds)
  have e2 := str_size ds
  have e3 := str_list ds
  have e4 : (ByteArray.mk #[48]).toList = ([48] : List UInt8) := str_list [48]
  obtain ⟨T, hT⟩ : ∃ T : Int, T = 10 := ⟨_, rfl⟩
  have T10 : Hid (∀ W, Calls Tryd.prog 64 #[.int .i64 10] W fun e w' => ∃ v, e = .returned v ∧ Below W.heap.size W w' ∧ IsWh w' T 3 v) := fun W => by rw [hT]; exact of_said (of_any 10 W (by decide))
  have HT := hidden hT
  clear hT
  have HDG : Hid (∀ k, k < ds.length → 0 ≤ by8 ds k - 48 ∧ by8 ds k - 48 ≤ 9) := fun k hk => by
    have h1 := hd _ (List.getElem_mem hk)
    unfold by8
    rw [List.getD_eq_getElem?_getD, List.getElem?_eq_getElem hk]
    show 0 ≤ ((ds[k].toNat : Int)) - 48 ∧ ((ds[k].toNat : Int)) - 48 ≤ 9
    omega
  have hlI : (ds.length : Int) ≤ 19 := by omega
  have hl0 : (0 : Int) < (ds.length : Int) := by omega
  have c19 : ¬ ((19 : Int) < (ds.length : Int)) := by omega
  have c19' : decide ((19 : Int) < (ds.length : Int)) = false := decide_eq_false c19
  have HV0 := hidden (var2_new w (.bool false) (.slice none 0 0) 99)
  have HB0 : Hid (Below w.heap.size w (w.alloc (.cells #[.bool false, .slice none 0 0] 99))) := (Below.refl _ _).alloc (Nat.le_refl _) _
  have HFIN : Hid (∀ x, x = signed true (decV 0 ds) → (numO true ds = some (fitV x) ∧ fitB x = true) ∨ (numO true ds = none ∧ fitB x = false)) := fun x hx => by
    subst hx
    unfold numO
    rw [ho, Bool.true_and]
    have hfb : fitB (signed true (decV 0 ds)) = fits8 (signed true (decV 0 ds)) := by unfold fitB fits8; by_cases ha : -9223372036854775808 ≤ signed true (decV 0 ds) <;> by_cases hb : signed true (decV 0 ds) ≤ 9223372036854775807 <;> simp [ha, hb]
    cases hf : fits8 (signed true (decV 0 ds)) with
    | true =>
      rw [hf] at hfb
      refine Or.inl ⟨?_, hfb⟩
      unfold fitV
      rw [if_pos hfb]
      rfl
    | false =>
      rw [hf] at hfb
      exact Or.inr ⟨rfl, hfb⟩
  have g0 := str_get ds 0 (by rw [e2]; exact h0)
  have s0 := str_get (45 :: ds) 0 (by rw [e1]; simp)
  have s1 : by8 (45 :: ds) 0 = 45 := rfl
  rw [s1] at s0
  have e1' : (str (45 :: ds)).size = ds.length + 1 := by rw [e1]; rfl
  have HX : (str (45 :: ds)).extract 1 (ds.length + 1) = str ds := by
    have := str_cut (45 :: ds) 1 ds.length
    rw [Nat.add_comm 1] at this
    rw [this]
    simp
  have xne : (ds == [48]) = false := by
    have : ¬ (ds = [48]) := by intro e; subst e; exact h48 rfl
    simpa using this
  clear ho hd
  have d1 : ¬ ((1 : Int) < (ds.length : Int)) := by omega
  have d1' : decide ((1 : Int) < (ds.length : Int)) = false := decide_eq_false d1
  clear h1
  go_enter Tryd.func45, Tryd.ntmps45
  go_wp2
  go_loopg [7] ds.length (fun gk i wr => ∃ (k : Nat) (x : Int) (m : Bool) (ad : Option Addr) (l p : Nat) (zs : List Int), k ≤ ds.length ∧ gk = ds.length - k ∧ i = .int .i64 k ∧ x = decV 0 (ds.take k) ∧ Below w.heap.size w wr ∧ Var2 wr w.heap.size (.bool m) (.slice ad l p) ∧ Wh wr m ad l p zs x ∧ l ≤ 7 * k)
  case atStart => exact ⟨0, 0, false, none, 0, 0, [], Nat.zero_le _, rfl, rfl, rfl, HB0.out, HV0.out, wh_zero, Nat.le_refl _⟩
  case round =>
    clear HV0 HB0
    obtain ⟨k, x, m, ad, l, p, zs, hk, rfl, rfl, hx, hbel, v3, hwh, hlb⟩ := hrel
    have HX2 := hidden hx
    clear hx
    by_cases hlt : k < ds.length
    · have hki : (k : Int) < (ds.length : Int) := by omega
      have gi := str_get ds k (by rw [e2]; exact hlt)
      obtain ⟨dv, hdv⟩ : ∃ dv : Int, by8 ds k - 48 = dv := ⟨_, rfl⟩
      have hdb := HDG.out k hlt
      rw [hdv] at hdb
      have hb8 : by8 ds k = 48 + dv := by omega
      rw [hb8] at gi
      have HNX : Hid (x * T + dv = decV 0 (ds.take (k + 1))) := by show _ = _; rw [dec_take hlt, ← HX2.out, hdv, HT.out]
      have zsz : (str ds).size = ds.length := e2
      have Od : Hid (∀ W, Calls Tryd.prog 64 #[.int .i64 dv] W (MadeWh W dv 3)) := fun W => of_any _ W (by omega)
      have wu8 : IntKind.u8.wrap (48 + dv - 48) = dv := by rw [IntKind.wrap_u8']; omega
      have wi64 : IntKind.i64.wrap dv = dv := by rw [IntKind.wrap_i64]; omega
      obtain ⟨B0, hB0⟩ : ∃ B0, w.heap.size = B0 := ⟨_, rfl⟩
      rw [hB0] at v3 hbel ⊢
      clear hdv hb8 HX2
      go_wp2
      refine wp_region_said 10 (fun i u v => match i with
          | 0 => IsWh u x (7 * k) v
          | 1 => IsWh u T 3 v
          | 2 => IsWh u (x * T) (7 * k + 3) v
          | 3 => v = .string (str ds)
          | 4 => v = .int .i64 (k : Int)
          | 5 => v = .int .u8 (48 + dv)
          | 6 => v = .int .u8 dv
          | 7 => v = .int .i64 dv
          | 8 => IsWh u dv 3 v
          | 9 => IsWh u (x * T + dv) (7 * k + 3 + 3 + 1) v
          | _ => True) (by kernel_rfl) (by kernel_rfl) (by kernel_rfl) (by kernel_rfl) ?_ ?_ ?_
      · intro i w v w' h hb
        match i, h with
        | 0, h => exact IsWh.later h hb
        | 1, h => exact IsWh.later h hb
        | 2, h => exact IsWh.later h hb
        | 3, h => exact h
        | 4, h => exact h
        | 5, h => exact h
        | 6, h => exact h
        | 7, h => exact h
        | 8, h => exact IsWh.later h hb
        | 9, h => exact IsWh.later h hb
        | _ + 10, _ => trivial
      · intro i o ρ w' hi ho hb hc hf hfr hdep
        match i, hi with
        | 0, _ =>
          simp only [List.getElem?_toArray, List.getElem?_cons_zero, Option.some.injEq] at ho
          subst ho
          have ts : ρ (.tmp 6) = .pointer (some ⟨B0, 0, none⟩) := hfr 6 (by kernel_rfl)
          have G := v3.later hb v3.lt
          have c0 := G.c0
          have c1 := G.c1
          simp [go_sem, ts, c0, c1]
          exact ⟨Below.refl _ _, m, ad, l, p, zs, rfl, hwh.below hb, hlb⟩
        | 1, _ =>
          simp only [List.getElem?_toArray, List.getElem?_cons_zero, List.getElem?_cons_succ, Option.some.injEq] at ho
          subst ho
          simp [go_sem, hf, hc]
          exact ⟨rfl, T10.out _⟩
        | 2, _ =>
          simp only [List.getElem?_toArray, List.getElem?_cons_zero, List.getElem?_cons_succ, Option.some.injEq] at ho
          subst ho
          obtain ⟨m0, a0, l0, p0, d0, e0, x0, y0⟩ : IsWh w' x (7 * k) (ρ (.tmp 41)) := hdep 0 41 (by kernel_rfl) (by kernel_rfl)
          obtain ⟨m1, a1, l1, p1, d1, e1, x1, y1⟩ : IsWh w' T 3 (ρ (.tmp 42)) := hdep 1 42 (by kernel_rfl) (by kernel_rfl)
          simp [go_sem, e0, e1, hf]
          exact ⟨rfl, times_said ⟨m0, a0, l0, p0, d0, rfl, x0, y0⟩ ⟨m1, a1, l1, p1, d1, rfl, x1, y1⟩ (by omega)⟩
        | 3, _ =>
          simp only [List.getElem?_toArray, List.getElem?_cons_zero, List.getElem?_cons_succ, Option.some.injEq] at ho
          subst ho
          have ts : ρ (.tmp 5) = .string (str ds) := hfr 5 (by kernel_rfl)
          simp [go_sem, ts]
          exact ⟨Below.refl _ _, rfl⟩
        | 4, _ =>
          simp only [List.getElem?_toArray, List.getElem?_cons_zero, List.getElem?_cons_succ, Option.some.injEq] at ho
          subst ho
          have ts : ρ (.tmp 7) = .int .i64 (k : Int) := hfr 7 (by kernel_rfl)
          simp [go_sem, ts]
          exact ⟨Below.refl _ _, rfl⟩
        | 5, _ =>
          simp only [List.getElem?_toArray, List.getElem?_cons_zero, List.getElem?_cons_succ, Option.some.injEq] at ho
          subst ho
          have t1 : ρ (.tmp 44) = .string (str ds) := hdep 3 44 (by kernel_rfl) (by kernel_rfl)
          have t2 : ρ (.tmp 45) = .int .i64 (k : Int) := hdep 4 45 (by kernel_rfl) (by kernel_rfl)
          simp [go_sem, t1, t2, hki, zsz, gi]
          exact ⟨Below.refl _ _, rfl⟩
        | 6, _ =>
          simp only [List.getElem?_toArray, List.getElem?_cons_zero, List.getElem?_cons_succ, Option.some.injEq] at ho
          subst ho
          have ts : ρ (.tmp 46) = .int .u8 (48 + dv) := hdep 5 46 (by kernel_rfl) (by kernel_rfl)
          simp [go_sem, ts, hc]
          exact ⟨Below.refl _ _, by show Value.int _ _ = _; rw [wu8]⟩
        | 7, _ =>
          simp only [List.getElem?_toArray, List.getElem?_cons_zero, List.getElem?_cons_succ, Option.some.injEq] at ho
          subst ho
          have ts : ρ (.tmp 47) = .int .u8 dv := hdep 6 47 (by kernel_rfl) (by kernel_rfl)
          simp [go_sem, ts, wi64]
          exact ⟨Below.refl _ _, rfl⟩
        | 8, _ =>
          simp only [List.getElem?_toArray, List.getElem?_cons_zero, List.getElem?_cons_succ, Option.some.injEq] at ho
          subst ho
          have ts : ρ (.tmp 48) = .int .i64 dv := hdep 7 48 (by kernel_rfl) (by kernel_rfl)
          simp [go_sem, ts, hf]
          exact ⟨rfl, of_said (Od.out _)⟩
        | 9, _ =>
          simp only [List.getElem?_toArray, List.getElem?_cons_zero, List.getElem?_cons_succ, Option.some.injEq] at ho
          subst ho
          obtain ⟨m0, a0, l0, p0, d0, e0, x0, y0⟩ : IsWh w' (x * T) (7 * k + 3) (ρ (.tmp 43)) := hdep 2 43 (by kernel_rfl) (by kernel_rfl)
          obtain ⟨m1, a1, l1, p1, d1, e1, x1, y1⟩ : IsWh w' dv 3 (ρ (.tmp 49)) := hdep 8 49 (by kernel_rfl) (by kernel_rfl)
          simp [go_sem, e0, e1, hf]
          exact ⟨rfl, plus_said (n := 7 * k + 3) (m := 3) ⟨m0, a0, l0, p0, d0, rfl, x0, y0⟩ ⟨m1, a1, l1, p1, d1, rfl, x1, y1⟩ (by omega)⟩
      · intro V w9 q9 hS
        obtain ⟨m0, a0, l0, p0, d0, e0, -, -⟩ : IsWh w9 x (7 * k) (V 0) := hS 0 (by decide)
        obtain ⟨m1, a1, l1, p1, d1, e1, -, -⟩ : IsWh w9 T 3 (V 1) := hS 1 (by decide)
        obtain ⟨m2, a2, l2, p2, d2, e2, -, -⟩ : IsWh w9 (x * T) (7 * k + 3) (V 2) := hS 2 (by decide)
        have e3 : V 3 = .string (str ds) := hS 3 (by decide)
        have e4 : V 4 = .int .i64 (k : Int) := hS 4 (by decide)
        have e5 : V 5 = .int .u8 (48 + dv) := hS 5 (by decide)
        have e6 : V 6 = .int .u8 dv := hS 6 (by decide)
        have e7 : V 7 = .int .i64 dv := hS 7 (by decide)
        obtain ⟨m8, a8, l8, p8, d8, e8, -, -⟩ : IsWh w9 dv 3 (V 8) := hS 8 (by decide)
        obtain ⟨m9, a9, l9, p9, d9, e9, hw9, hl9⟩ : IsWh w9 (x * T + dv) (7 * k + 3 + 3 + 1) (V 9) := hS 9 (by decide)
        simp only [List.drop_succ_cons, List.drop_zero, List.take_succ_cons, List.take_zero, puts, e0, e1, e2, e3, e4, e5, e6, e7, e8, e9]
        clear hS e0 e1 e2 e3 e4 e5 e6 e7 e8 e9 V
        have R := v3.later q9 v3.lt
        have r0 := R.c0
        have r1 := R.c1
        have f0 := R.f0
        have f1 := R.f1
        have P3 := R.put (.bool m9) (.slice a9 l9 p9)
        have PW := hw9.store2 R (fun _ h => by cases h) (fun _ h => by cases h) (.bool m9) (.slice a9 l9 p9)
        have PB := ((hbel.trans (q9.mono (by rw [← hB0]; exact hbel.size))).setCell (p := ⟨B0, 0, none⟩) (Nat.le_refl _) (.bool m9)).setCell (p := ⟨B0, 1, none⟩) (Nat.le_refl _) (.slice a9 l9 p9)
        clear v3 hwh R hw9 q9 hbel
        go_wp2
        subst hB0
        go_roundg (ds.length - (k + 1))
        case measure => omega
        case rel => exact ⟨k + 1, x * T + dv, m9, a9, l9, p9, d9, by omega, rfl, by go_num, HNX.out, PB, P3, PW, by omega⟩
    · have ek : k = ds.length := by omega
      subst ek
      have hkk : ¬ ((ds.length : Int) < (ds.length : Int)) := by omega
      have HXX : Hid (x = decV 0 ds) := by have := HX2.out; rw [List.take_length] at this; exact this
      clear HX2 HDG T10
      have c0 := v3.c0
      have c1 := v3.c1
      have f0 := v3.f0
      have f1 := v3.f1
      go_wp2_with (first
        | (go_at_call 66; refine (toInt_any _ _ _ _ _ _ _ PW.out).mono ?_; rintro e w2 ⟨rfl, hb2⟩)
        | (go_at_call 65; refine (negative_any _ _ _ _ _ _ _ hwh).mono ?_; rintro e w1 ⟨m1, a1, l1, p1, d1, rfl, hw1, hb1, hl1⟩; have R := v3.later hb1 v3.lt; have r0 := R.c0; have r1 := R.c1; have f2 := R.f0; have f3 := R.f1; have u0 := (R.put (.bool m1) (.slice a1 l1 p1)).c0; have u1 := (R.put (.bool m1) (.slice a1 l1 p1)).c1; have PW := hidden (hw1.store2 R (fun _ h => by cases h) (fun _ h => by cases h) (.bool m1) (.slice a1 l1 p1)); have PB := hidden (((hbel.trans (hb1.mono hbel.size)).setCell (p := ⟨w.heap.size, 0, none⟩) (Nat.le_refl _) (.bool m1)).setCell (p := ⟨w.heap.size, 1, none⟩) (Nat.le_refl _) (.slice a1 l1 p1))))
      all_goals exact bodyPost_ret (v := .tuple #[.int .i64 (fitV (-x)), .bool (fitB (-x))]) (by simp [results, Tryd.results45, go_sem]) rfl ⟨fitV (-x), fitB (-x), rfl, HFIN.out (-x) (by rw [HXX.out]; rfl), PB.out.trans (hb2.mono PB.out.size)⟩
set_option maxRecDepth 100000 in
set_option maxHeartbeats 20000000 in
theorem rnumber_minus2 (ds : List UInt8) (w : World) (hd : allD ds) (hl : ds.length ≤ 19) (h0 : 0 < ds.length) (ho : oneB true ds = true) (h48 : by8 ds 0 ≠ 48) (h1 : 1 < ds.length) : Calls Tryd.prog 45 #[.string (str (45 :: ds))] w (RNum true ds w) := by
  have e1 := str_size (45 :: ds)
  have e2 := str_size ds
  have e3 := str_list ds
  have e4 : (ByteArray.mk #[48]).toList = ([48] : List UInt8) := str_list [48]
  obtain ⟨T, hT⟩ : ∃ T : Int, T = 10 := ⟨_, rfl⟩
  have T10 : Hid (∀ W, Calls Tryd.prog 64 #[.int .i64 10] W fun e w' => ∃ v, e = .returned v ∧ Below W.heap.size W w' ∧ IsWh w' T 3 v) := fun W => by rw [hT]; exact of_said (of_any 10 W (by decide))
  have HT := hidden hT
  clear hT
  have HDG : Hid (∀ k, k < ds.length → 0 ≤ by8 ds k - 48 ∧ by8 ds k - 48 ≤ 9) := fun k hk => by
    have h1 := hd _ (List.getElem_mem hk)
    unfold by8
    rw [List.getD_eq_getElem?_getD, List.getElem?_eq_getElem hk]
    show 0 ≤ ((ds[k].toNat : Int)) - 48 ∧ ((ds[k].toNat : Int)) - 48 ≤ 9
    omega
  have hlI : (ds.length : Int) ≤ 19 := by omega
  have hl0 : (0 : Int) < (ds.length : Int) := by omega
  have c19 : ¬ ((19 : Int) < (ds.length : Int)) := by omega
  have c19' : decide ((19 : Int) < (ds.length : Int)) = false := decide_eq_false c19
  have HV0 := hidden (var2_new w (.bool false) (.slice none 0 0) 99)
  have HB0 : Hid (Below w.heap.size w (w.alloc (.cells #[.bool false, .slice none 0 0] 99))) := (Below.refl _ _).alloc (Nat.le_refl _) _
  have HFIN : Hid (∀ x, x = signed true (decV 0 ds) → (numO true ds = some (fitV x) ∧ fitB x = true) ∨ (numO true ds = none ∧ fitB x = false)) := fun x hx => by
    subst hx
    unfold numO
    rw [ho, Bool.true_and]
    have hfb : fitB (signed true (decV 0 ds)) = fits8 (signed true (decV 0 ds)) := by unfold fitB fits8; by_cases ha : -9223372036854775808 ≤ signed true (decV 0 ds) <;> by_cases hb : signed true (decV 0 ds) ≤ 9223372036854775807 <;> simp [ha, hb]
    cases hf : fits8 (signed true (decV 0 ds)) with
    | true =>
      rw [hf] at hfb
      refine Or.inl ⟨?_, hfb⟩
      unfold fitV
      rw [if_pos hfb]
      rfl
    | false =>
      rw [hf] at hfb
      exact Or.inr ⟨rfl, hfb⟩
  have g0 := str_get ds 0 (by rw [e2]; exact h0)
  have s0 := str_get (45 :: ds) 0 (by rw [e1]; simp)
  have s1 : by8 (45 :: ds) 0 = 45 := rfl
  rw [s1] at s0
  have e1' : (str (45 :: ds)).size = ds.length + 1 := by rw [e1]; rfl
  have HX : (str (45 :: ds)).extract 1 (ds.length + 1) = str ds := by
    have := str_cut (45 :: ds) 1 ds.length
    rw [Nat.add_comm 1] at this
    rw [this]
    simp
  have xne : (ds == [48]) = false := by
    have : ¬ (ds = [48]) := by intro e; subst e; exact h48 rfl
    simpa using this
  clear ho hd
  have d1 : (1 : Int) < (ds.length : Int) := by omega
  have d1' : decide ((1 : Int) < (ds.length : Int)) = true := decide_eq_true d1
  have xb : (by8 ds 0 == 48) = false := by simpa using h48
  have x48 : decide (by8 ds 0 = 48) = false := decide_eq_false h48
  clear h1
  go_enter Tryd.func45, Tryd.ntmps45
  go_wp2
  go_loopg [7] ds.length (fun gk i wr => ∃ (k : Nat) (x : Int) (m : Bool) (ad : Option Addr) (l p : Nat) (zs : List Int), k ≤ ds.length ∧ gk = ds.length - k ∧ i = .int .i64 k ∧ x = decV 0 (ds.take k) ∧ Below w.heap.size w wr ∧ Var2 wr w.heap.size (.bool m) (.slice ad l p) ∧ Wh wr m ad l p zs x ∧ l ≤ 7 * k)
  case atStart => exact ⟨0, 0, false, none, 0, 0, [], Nat.zero_le _, rfl, rfl, rfl, HB0.out, HV0.out, wh_zero, Nat.le_refl _⟩
  case round =>
    clear HV0 HB0
    obtain ⟨k, x, m, ad, l, p, zs, hk, rfl, rfl, hx, hbel, v3, hwh, hlb⟩ := hrel
    have HX2 := hidden hx
    clear hx
    by_cases hlt : k < ds.length
    · have hki : (k : Int) < (ds.length : Int) := by omega
      have gi := str_get ds k (by rw [e2]; exact hlt)
      obtain ⟨dv, hdv⟩ : ∃ dv : Int, by8 ds k - 48 = dv := ⟨_, rfl⟩
      have hdb := HDG.out k hlt
      rw [hdv] at hdb
      have hb8 : by8 ds k = 48 + dv := by omega
      rw [hb8] at gi
      have HNX : Hid (x * T + dv = decV 0 (ds.take (k + 1))) := by show _ = _; rw [dec_take hlt, ← HX2.out, hdv, HT.out]
      have zsz : (str ds).size = ds.length := e2
      have Od : Hid (∀ W, Calls Tryd.prog 64 #[.int .i64 dv] W (MadeWh W dv 3)) := fun W => of_any _ W (by omega)
      have wu8 : IntKind.u8.wrap (48 + dv - 48) = dv := by rw [IntKind.wrap_u8']; omega
      have wi64 : IntKind.i64.wrap dv = dv := by rw [IntKind.wrap_i64]; omega
      obtain ⟨B0, hB0⟩ : ∃ B0, w.heap.size = B0 := ⟨_, rfl⟩
      rw [hB0] at v3 hbel ⊢
      clear hdv hb8 HX2
      go_wp2
      refine wp_region_said 10 (fun i u v => match i with
          | 0 => IsWh u x (7 * k) v
          | 1 => IsWh u T 3 v
          | 2 => IsWh u (x * T) (7 * k + 3) v
          | 3 => v = .string (str ds)
          | 4 => v = .int .i64 (k : Int)
          | 5 => v = .int .u8 (48 + dv)
          | 6 => v = .int .u8 dv
          | 7 => v = .int .i64 dv
          | 8 => IsWh u dv 3 v
          | 9 => IsWh u (x * T + dv) (7 * k + 3 + 3 + 1) v
          | _ => True) (by kernel_rfl) (by kernel_rfl) (by kernel_rfl) (by kernel_rfl) ?_ ?_ ?_
      · intro i w v w' h hb
        match i, h with
        | 0, h => exact IsWh.later h hb
        | 1, h => exact IsWh.later h hb
        | 2, h => exact IsWh.later h hb
        | 3, h => exact h
        | 4, h => exact h
        | 5, h => exact h
        | 6, h => exact h
        | 7, h => exact h
        | 8, h => exact IsWh.later h hb
        | 9, h => exact IsWh.later h hb
        | _ + 10, _ => trivial
      · intro i o ρ w' hi ho hb hc hf hfr hdep
        match i, hi with
        | 0, _ =>
          simp only [List.getElem?_toArray, List.getElem?_cons_zero, Option.some.injEq] at ho
          subst ho
          have ts : ρ (.tmp 6) = .pointer (some ⟨B0, 0, none⟩) := hfr 6 (by kernel_rfl)
          have G := v3.later hb v3.lt
          have c0 := G.c0
          have c1 := G.c1
          simp [go_sem, ts, c0, c1]
          exact ⟨Below.refl _ _, m, ad, l, p, zs, rfl, hwh.below hb, hlb⟩
        | 1, _ =>
          simp only [List.getElem?_toArray, List.getElem?_cons_zero, List.getElem?_cons_succ, Option.some.injEq] at ho
          subst ho
          simp [go_sem, hf, hc]
          exact ⟨rfl, T10.out _⟩
        | 2, _ =>
          simp only [List.getElem?_toArray, List.getElem?_cons_zero, List.getElem?_cons_succ, Option.some.injEq] at ho
          subst ho
          obtain ⟨m0, a0, l0, p0, d0, e0, x0, y0⟩ : IsWh w' x (7 * k) (ρ (.tmp 41)) := hdep 0 41 (by kernel_rfl) (by kernel_rfl)
          obtain ⟨m1, a1, l1, p1, d1, e1, x1, y1⟩ : IsWh w' T 3 (ρ (.tmp 42)) := hdep 1 42 (by kernel_rfl) (by kernel_rfl)
          simp [go_sem, e0, e1, hf]
          exact ⟨rfl, times_said ⟨m0, a0, l0, p0, d0, rfl, x0, y0⟩ ⟨m1, a1, l1, p1, d1, rfl, x1, y1⟩ (by omega)⟩
        | 3, _ =>
          simp only [List.getElem?_toArray, List.getElem?_cons_zero, List.getElem?_cons_succ, Option.some.injEq] at ho
          subst ho
          have ts : ρ (.tmp 5) = .string (str ds) := hfr 5 (by kernel_rfl)
          simp [go_sem, ts]
          exact ⟨Below.refl _ _, rfl⟩
        | 4, _ =>
          simp only [List.getElem?_toArray, List.getElem?_cons_zero, List.getElem?_cons_succ, Option.some.injEq] at ho
          subst ho
          have ts : ρ (.tmp 7) = .int .i64 (k : Int) := hfr 7 (by kernel_rfl)
          simp [go_sem, ts]
          exact ⟨Below.refl _ _, rfl⟩
        | 5, _ =>
          simp only [List.getElem?_toArray, List.getElem?_cons_zero, List.getElem?_cons_succ, Option.some.injEq] at ho
          subst ho
          have t1 : ρ (.tmp 44) = .string (str ds) := hdep 3 44 (by kernel_rfl) (by kernel_rfl)
          have t2 : ρ (.tmp 45) = .int .i64 (k : Int) := hdep 4 45 (by kernel_rfl) (by kernel_rfl)
          simp [go_sem, t1, t2, hki, zsz, gi]
          exact ⟨Below.refl _ _, rfl⟩
        | 6, _ =>
          simp only [List.getElem?_toArray, List.getElem?_cons_zero, List.getElem?_cons_succ, Option.some.injEq] at ho
          subst ho
          have ts : ρ (.tmp 46) = .int .u8 (48 + dv) := hdep 5 46 (by kernel_rfl) (by kernel_rfl)
          simp [go_sem, ts, hc]
          exact ⟨Below.refl _ _, by show Value.int _ _ = _; rw [wu8]⟩
        | 7, _ =>
          simp only [List.getElem?_toArray, List.getElem?_cons_zero, List.getElem?_cons_succ, Option.some.injEq] at ho
          subst ho
          have ts : ρ (.tmp 47) = .int .u8 dv := hdep 6 47 (by kernel_rfl) (by kernel_rfl)
          simp [go_sem, ts, wi64]
          exact ⟨Below.refl _ _, rfl⟩
        | 8, _ =>
          simp only [List.getElem?_toArray, List.getElem?_cons_zero, List.getElem?_cons_succ, Option.some.injEq] at ho
          subst ho
          have ts : ρ (.tmp 48) = .int .i64 dv := hdep 7 48 (by kernel_rfl) (by kernel_rfl)
          simp [go_sem, ts, hf]
          exact ⟨rfl, of_said (Od.out _)⟩
        | 9, _ =>
          simp only [List.getElem?_toArray, List.getElem?_cons_zero, List.getElem?_cons_succ, Option.some.injEq] at ho
          subst ho
          obtain ⟨m0, a0, l0, p0, d0, e0, x0, y0⟩ : IsWh w' (x * T) (7 * k + 3) (ρ (.tmp 43)) := hdep 2 43 (by kernel_rfl) (by kernel_rfl)
          obtain ⟨m1, a1, l1, p1, d1, e1, x1, y1⟩ : IsWh w' dv 3 (ρ (.tmp 49)) := hdep 8 49 (by kernel_rfl) (by kernel_rfl)
          simp [go_sem, e0, e1, hf]
          exact ⟨rfl, plus_said (n := 7 * k + 3) (m := 3) ⟨m0, a0, l0, p0, d0, rfl, x0, y0⟩ ⟨m1, a1, l1, p1, d1, rfl, x1, y1⟩ (by omega)⟩
      · intro V w9 q9 hS
        obtain ⟨m0, a0, l0, p0, d0, e0, -, -⟩ : IsWh w9 x (7 * k) (V 0) := hS 0 (by decide)
        obtain ⟨m1, a1, l1, p1, d1, e1, -, -⟩ : IsWh w9 T 3 (V 1) := hS 1 (by decide)
        obtain ⟨m2, a2, l2, p2, d2, e2, -, -⟩ : IsWh w9 (x * T) (7 * k + 3) (V 2) := hS 2 (by decide)
        have e3 : V 3 = .string (str ds) := hS 3 (by decide)
        have e4 : V 4 = .int .i64 (k : Int) := hS 4 (by decide)
        have e5 : V 5 = .int .u8 (48 + dv) := hS 5 (by decide)
        have e6 : V 6 = .int .u8 dv := hS 6 (by decide)
        have e7 : V 7 = .int .i64 dv := hS 7 (by decide)
        obtain ⟨m8, a8, l8, p8, d8, e8, -, -⟩ : IsWh w9 dv 3 (V 8) := hS 8 (by decide)
        obtain ⟨m9, a9, l9, p9, d9, e9, hw9, hl9⟩ : IsWh w9 (x * T + dv) (7 * k + 3 + 3 + 1) (V 9) := hS 9 (by decide)
        simp only [List.drop_succ_cons, List.drop_zero, List.take_succ_cons, List.take_zero, puts, e0, e1, e2, e3, e4, e5, e6, e7, e8, e9]
        clear hS e0 e1 e2 e3 e4 e5 e6 e7 e8 e9 V
        have R := v3.later q9 v3.lt
        have r0 := R.c0
        have r1 := R.c1
        have f0 := R.f0
        have f1 := R.f1
        have P3 := R.put (.bool m9) (.slice a9 l9 p9)
        have PW := hw9.store2 R (fun _ h => by cases h) (fun _ h => by cases h) (.bool m9) (.slice a9 l9 p9)
        have PB := ((hbel.trans (q9.mono (by rw [← hB0]; exact hbel.size))).setCell (p := ⟨B0, 0, none⟩) (Nat.le_refl _) (.bool m9)).setCell (p := ⟨B0, 1, none⟩) (Nat.le_refl _) (.slice a9 l9 p9)
        clear v3 hwh R hw9 q9 hbel
        go_wp2
        subst hB0
        go_roundg (ds.length - (k + 1))
        case measure => omega
        case rel => exact ⟨k + 1, x * T + dv, m9, a9, l9, p9, d9, by omega, rfl, by go_num, HNX.out, PB, P3, PW, by omega⟩
    · have ek : k = ds.length := by omega
      subst ek
      have hkk : ¬ ((ds.length : Int) < (ds.length : Int)) := by omega
      have HXX : Hid (x = decV 0 ds) := by have := HX2.out; rw [List.take_length] at this; exact this
      clear HX2 HDG T10
      have c0 := v3.c0
      have c1 := v3.c1
      have f0 := v3.f0
      have f1 := v3.f1
      go_wp2_with (first
        | (go_at_call 66; refine (toInt_any _ _ _ _ _ _ _ PW.out).mono ?_; rintro e w2 ⟨rfl, hb2⟩)
        | (go_at_call 65; refine (negative_any _ _ _ _ _ _ _ hwh).mono ?_; rintro e w1 ⟨m1, a1, l1, p1, d1, rfl, hw1, hb1, hl1⟩; have R := v3.later hb1 v3.lt; have r0 := R.c0; have r1 := R.c1; have f2 := R.f0; have f3 := R.f1; have u0 := (R.put (.bool m1) (.slice a1 l1 p1)).c0; have u1 := (R.put (.bool m1) (.slice a1 l1 p1)).c1; have PW := hidden (hw1.store2 R (fun _ h => by cases h) (fun _ h => by cases h) (.bool m1) (.slice a1 l1 p1)); have PB := hidden (((hbel.trans (hb1.mono hbel.size)).setCell (p := ⟨w.heap.size, 0, none⟩) (Nat.le_refl _) (.bool m1)).setCell (p := ⟨w.heap.size, 1, none⟩) (Nat.le_refl _) (.slice a1 l1 p1))))
      all_goals exact bodyPost_ret (v := .tuple #[.int .i64 (fitV (-x)), .bool (fitB (-x))]) (by simp [results, Tryd.results45, go_sem]) rfl ⟨fitV (-x), fitB (-x), rfl, HFIN.out (-x) (by rw [HXX.out]; rfl), PB.out.trans (hb2.mono PB.out.size)⟩
theorem num_none {neg : Bool} {ds : List UInt8} (h : oneB neg ds = false) : numO neg ds = none := by
  unfold numO
  rw [h]; rfl
theorem one_bad {neg : Bool} {ds : List UInt8} (h48 : by8 ds 0 = 48) (h1 : 1 < ds.length) : oneB neg ds = false := by
  unfold oneB
  rw [decide_eq_true h48, decide_eq_false (by omega : ¬ (ds.length = 1))]; rfl
set_option maxRecDepth 100000 in
set_option maxHeartbeats 2000000 in
theorem rnumber_plain3 (ds : List UInt8) (w : World) (_hd : allD ds) (h0 : 0 < ds.length) (hB : ds.length ≤ 1048576) (h48 : by8 ds 0 = 48) (h1 : 1 < ds.length) : Calls Tryd.prog 45 #[.string (str (ds))] w (RNum false ds w) := by
  have HN : Hid (numO false ds = none) := num_none (one_bad h48 h1)
  have e1 := str_size (ds)
  have e2 := str_size ds
  have e3 := str_list ds
  have e4 : (ByteArray.mk #[48]).toList = ([48] : List UInt8) := str_list [48]
  have hl0 : (0 : Int) < (ds.length : Int) := by omega
  have g0 := str_get ds 0 (by rw [e2]; exact h0)
  have d1 : (1 : Int) < (ds.length : Int) := by omega
  have d1' : decide ((1 : Int) < (ds.length : Int)) = true := decide_eq_true d1
  have x48 : decide (by8 ds 0 = 48) = true := decide_eq_true h48
  clear h1
  have hdg : 48 ≤ by8 ds 0 := by
    have h1 := _hd _ (List.getElem_mem h0)
    unfold by8
    rw [List.getD_eq_getElem?_getD, List.getElem?_eq_getElem h0]
    show (48 : Int) ≤ ((ds[0].toNat : Int))
    omega
  have x45 : ¬ (by8 ds 0 = 45) := by omega
  have x45' : decide (by8 ds 0 = 45) = false := decide_eq_false x45
  clear _hd
  go_enter Tryd.func45, Tryd.ntmps45
  go_wp2
  exact bodyPost_ret (v := .tuple #[.int .i64 0, .bool false]) (by simp [results, Tryd.results45, go_sem]) rfl ⟨0, false, rfl, Or.inr ⟨HN.out, rfl⟩, Below.refl _ _⟩
set_option maxRecDepth 100000 in
set_option maxHeartbeats 2000000 in
theorem rnumber_plain4 (ds : List UInt8) (w : World) (_hd : allD ds) (h0 : 0 < ds.length) (hB : ds.length ≤ 1048576) (h48 : by8 ds 0 ≠ 48) (h1 : 19 < ds.length) : Calls Tryd.prog 45 #[.string (str (ds))] w (RNum false ds w) := by
  have HN : Hid (numO false ds = none) := num_long _hd h1
  have e1 := str_size (ds)
  have e2 := str_size ds
  have e3 := str_list ds
  have e4 : (ByteArray.mk #[48]).toList = ([48] : List UInt8) := str_list [48]
  have hl0 : (0 : Int) < (ds.length : Int) := by omega
  have g0 := str_get ds 0 (by rw [e2]; exact h0)
  have d1 : (1 : Int) < (ds.length : Int) := by omega
  have d1' : decide ((1 : Int) < (ds.length : Int)) = true := decide_eq_true d1
  have xb : (by8 ds 0 == 48) = false := by simpa using h48
  have x48 : decide (by8 ds 0 = 48) = false := decide_eq_false h48
  have c19 : (19 : Int) < (ds.length : Int) := by omega
  have c19' : decide ((19 : Int) < (ds.length : Int)) = true := decide_eq_true c19
  have xne : (ds == [48]) = false := by
    have : ¬ (ds = [48]) := by intro e; subst e; exact h48 rfl
    simpa using this
  clear h1
  have hdg : 48 ≤ by8 ds 0 := by
    have h1 := _hd _ (List.getElem_mem h0)
    unfold by8
    rw [List.getD_eq_getElem?_getD, List.getElem?_eq_getElem h0]
    show (48 : Int) ≤ ((ds[0].toNat : Int))
    omega
  have x45 : ¬ (by8 ds 0 = 45) := by omega
  have x45' : decide (by8 ds 0 = 45) = false := decide_eq_false x45
  clear _hd
  go_enter Tryd.func45, Tryd.ntmps45
  go_wp2
  exact bodyPost_ret (v := .tuple #[.int .i64 0, .bool false]) (by simp [results, Tryd.results45, go_sem]) rfl ⟨0, false, rfl, Or.inr ⟨HN.out, rfl⟩, Below.refl _ _⟩
set_option maxRecDepth 100000 in
set_option maxHeartbeats 2000000 in
theorem rnumber_minus3 (ds : List UInt8) (w : World) (_hd : allD ds) (h0 : 0 < ds.length) (hB : ds.length ≤ 1048576) (h48 : by8 ds 0 = 48) (h1 : 1 < ds.length) : Calls Tryd.prog 45 #[.string (str (45 :: ds))] w (RNum true ds w) := by
  have HN : Hid (numO true ds = none) := num_none (one_bad h48 h1)
  have e1 := str_size (45 :: ds)
  have e2 := str_size ds
  have e3 := str_list ds
  have e4 : (ByteArray.mk #[48]).toList = ([48] : List UInt8) := str_list [48]
  have hl0 : (0 : Int) < (ds.length : Int) := by omega
  have g0 := str_get ds 0 (by rw [e2]; exact h0)
  have d1 : (1 : Int) < (ds.length : Int) := by omega
  have d1' : decide ((1 : Int) < (ds.length : Int)) = true := decide_eq_true d1
  have x48 : decide (by8 ds 0 = 48) = true := decide_eq_true h48
  clear h1
  have s0 := str_get (45 :: ds) 0 (by rw [e1]; simp)
  have s1 : by8 (45 :: ds) 0 = 45 := rfl
  rw [s1] at s0
  have e1' : (str (45 :: ds)).size = ds.length + 1 := by rw [e1]; rfl
  have HX : (str (45 :: ds)).extract 1 (ds.length + 1) = str ds := by
    have := str_cut (45 :: ds) 1 ds.length
    rw [Nat.add_comm 1] at this
    rw [this]
    simp
  clear _hd
  go_enter Tryd.func45, Tryd.ntmps45
  go_wp2
  exact bodyPost_ret (v := .tuple #[.int .i64 0, .bool false]) (by simp [results, Tryd.results45, go_sem]) rfl ⟨0, false, rfl, Or.inr ⟨HN.out, rfl⟩, Below.refl _ _⟩
set_option maxRecDepth 100000 in
set_option maxHeartbeats 2000000 in
theorem rnumber_minus4 (ds : List UInt8) (w : World) (_hd : allD ds) (h0 : 0 < ds.length) (hB : ds.length ≤ 1048576) (h48 : by8 ds 0 ≠ 48) (h1 : 19 < ds.length) : Calls Tryd.prog 45 #[.string (str (45 :: ds))] w (RNum true ds w) := by
  have HN : Hid (numO true ds = none) := num_long _hd h1
  have e1 := str_size (45 :: ds)
  have e2 := str_size ds
  have e3 := str_list ds
  have e4 : (ByteArray.mk #[48]).toList = ([48] : List UInt8) := str_list [48]
  have hl0 : (0 : Int) < (ds.length : Int) := by omega
  have g0 := str_get ds 0 (by rw [e2]; exact h0)
  have d1 : (1 : Int) < (ds.length : Int) := by omega
  have d1' : decide ((1 : Int) < (ds.length : Int)) = true := decide_eq_true d1
  have xb : (by8 ds 0 == 48) = false := by simpa using h48
  have x48 : decide (by8 ds 0 = 48) = false := decide_eq_false h48
  have c19 : (19 : Int) < (ds.length : Int) := by omega
  have c19' : decide ((19 : Int) < (ds.length : Int)) = true := decide_eq_true c19
  have xne : (ds == [48]) = false := by
    have : ¬ (ds = [48]) := by intro e; subst e; exact h48 rfl
    simpa using this
  clear h1
  have s0 := str_get (45 :: ds) 0 (by rw [e1]; simp)
  have s1 : by8 (45 :: ds) 0 = 45 := rfl
  rw [s1] at s0
  have e1' : (str (45 :: ds)).size = ds.length + 1 := by rw [e1]; rfl
  have HX : (str (45 :: ds)).extract 1 (ds.length + 1) = str ds := by
    have := str_cut (45 :: ds) 1 ds.length
    rw [Nat.add_comm 1] at this
    rw [this]
    simp
  clear _hd
  go_enter Tryd.func45, Tryd.ntmps45
  go_wp2
  exact bodyPost_ret (v := .tuple #[.int .i64 0, .bool false]) (by simp [results, Tryd.results45, go_sem]) rfl ⟨0, false, rfl, Or.inr ⟨HN.out, rfl⟩, Below.refl _ _⟩
set_option maxRecDepth 100000 in
set_option maxHeartbeats 2000000 in
theorem rnumber_minus5 (ds : List UInt8) (w : World) (_hd : allD ds) (h0 : 0 < ds.length) (hB : ds.length ≤ 1048576) (hz : ds = [48]) (h1 : ds.length = 1) : Calls Tryd.prog 45 #[.string (str (45 :: ds))] w (RNum true ds w) := by
  have HN : Hid (numO true ds = none) := num_none (by rw [hz]; rfl)
  have e1 := str_size (45 :: ds)
  have e2 := str_size ds
  have e3 := str_list ds
  have e4 : (ByteArray.mk #[48]).toList = ([48] : List UInt8) := str_list [48]
  have hl0 : (0 : Int) < (ds.length : Int) := by omega
  have g0 := str_get ds 0 (by rw [e2]; exact h0)
  have d1 : ¬ ((1 : Int) < (ds.length : Int)) := by omega
  have d1' : decide ((1 : Int) < (ds.length : Int)) = false := decide_eq_false d1
  have xeq : (ds == [48]) = true := by rw [hz]; rfl
  have x48 : decide (by8 ds 0 = 48) = true := decide_eq_true (by rw [hz]; rfl)
  clear h1 hz
  have s0 := str_get (45 :: ds) 0 (by rw [e1]; simp)
  have s1 : by8 (45 :: ds) 0 = 45 := rfl
  rw [s1] at s0
  have e1' : (str (45 :: ds)).size = ds.length + 1 := by rw [e1]; rfl
  have HX : (str (45 :: ds)).extract 1 (ds.length + 1) = str ds := by
    have := str_cut (45 :: ds) 1 ds.length
    rw [Nat.add_comm 1] at this
    rw [this]
    simp
  clear _hd
  go_enter Tryd.func45, Tryd.ntmps45
  go_wp2
  exact bodyPost_ret (v := .tuple #[.int .i64 0, .bool false]) (by simp [results, Tryd.results45, go_sem]) rfl ⟨0, false, rfl, Or.inr ⟨HN.out, rfl⟩, Below.refl _ _⟩
/-- The document's number, whatever the digits. -/
def sgnS (neg : Bool) (ds : List UInt8) : List UInt8 := if neg then 45 :: ds else ds
theorem rnumber_any (neg : Bool) (ds : List UInt8) (w : World) (hd : allD ds) (h0 : 0 < ds.length) (hB : ds.length ≤ 1048576) : Calls Tryd.prog 45 #[.string (str (sgnS neg ds))] w (RNum neg ds w) := by
  cases neg
  · show Calls Tryd.prog 45 #[.string (str ds)] w (RNum false ds w)
    by_cases h1 : ds.length = 1
    · exact rnumber_plain1 ds w hd (by omega) h0 (by unfold oneB; rw [decide_eq_true h1]; cases decide (by8 ds 0 = 48) <;> rfl) h1
    · by_cases h48 : by8 ds 0 = 48
      · exact rnumber_plain3 ds w hd h0 hB h48 (by omega)
      · by_cases hl : ds.length ≤ 19
        · exact rnumber_plain2 ds w hd hl h0 (by unfold oneB; rw [decide_eq_false h48]; rfl) h48 (by omega)
        · exact rnumber_plain4 ds w hd h0 hB h48 (by omega)
  · show Calls Tryd.prog 45 #[.string (str (45 :: ds))] w (RNum true ds w)
    by_cases h48 : by8 ds 0 = 48
    · by_cases h1 : ds.length = 1
      · refine rnumber_minus5 ds w hd h0 hB ?_ h1
        match ds, h1, h48 with
        | [c], _, h =>
          have hc : (c.toNat : Int) = 48 := h
          have : c = 48 := UInt8.toNat_inj.mp (by show c.toNat = 48; omega)
          rw [this]
      · exact rnumber_minus3 ds w hd h0 hB h48 (by omega)
    · by_cases hl : ds.length ≤ 19
      · by_cases h1 : ds.length = 1
        · exact rnumber_minus1 ds w hd hl h0 (by unfold oneB; rw [decide_eq_false h48]; rfl) h48 h1
        · exact rnumber_minus2 ds w hd hl h0 (by unfold oneB; rw [decide_eq_false h48]; rfl) h48 (by omega)
      · exact rnumber_minus4 ds w hd h0 hB h48 (by omega)
end Go.Proofs.YtpmooflijlkppaaDoor

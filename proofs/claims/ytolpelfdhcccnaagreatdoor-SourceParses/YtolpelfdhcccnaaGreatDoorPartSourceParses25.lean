/- Texts of one chain, laid one behind the other. -/
import Derived.Test.YtolpelfdhcccnaaGreatDoorPartSourceParses16
import Derived.Test.YtolpelfdhcccnaaGreatDoorPartSourceParses8
import Derived.Test.YtolpelfdhcccnaaGreatDoorPartSourceParses24
import Derived.Test.YtolpelfdhcccnaaGreatDoorPartSourceParses18
import Derived.Test.YtolpelfdhcccnaaGreatDoorPartSourceParses15
import Derived.Test.YtolpelfdhcccnaaGreatDoorPartSourceParses1
namespace Go.Proofs.YtolpelfdhcccnaaGreatDoor
open Go.ChangeShapes Go.WideShapes Go.ChangeAt Go.RowKit
theorem plus_said {x y : Int} {W : World} {u v : Value} {n m : Nat} (h1 : IsWh W x n u) (h2 : IsWh W y m v) (hs : n + m < 1000000000) : Calls Tryz.prog 167 #[u, v] W fun e w' => ∃ r, e = .returned r ∧ Below W.heap.size W w' ∧ IsWh w' (x + y) (n + m + 1) r := by
  obtain ⟨m1, a1, l1, p1, d1, rfl, w1, b1⟩ := h1
  obtain ⟨m2, a2, l2, p2, d2, rfl, w2, b2⟩ := h2
  refine (plus_any m1 m2 a1 a2 l1 l2 p1 p2 d1 d2 x y W w1 w2 (by omega)).mono ?_
  rintro e w' ⟨m, a, l, p, ds, he, hw, hb, hl⟩
  exact ⟨_, he, hb, m, a, l, p, ds, rfl, hw, by omega⟩
/-- How the document's number ends. -/
def RNum (neg : Bool) (ds : List UInt8) (w : World) (e : Ending) (w' : World) : Prop :=
  ∃ x b, e = .returned (.tuple #[.int .i64 x, .bool b]) ∧ ((numO neg ds = some x ∧ b = true) ∨ (numO neg ds = none ∧ b = false)) ∧ Below w.heap.size w w'
theorem num_long {neg : Bool} {ds : List UInt8} (hd : allD ds) (hl : 19 < ds.length) : numO neg ds = none := by
  unfold numO
  by_cases h48 : by8 ds 0 = 48
  · have : oneB neg ds = false := by
      unfold oneB
      rw [decide_eq_true h48, decide_eq_false (by omega)]; rfl
    rw [this]; rfl
  · obtain ⟨b1, b2⟩ := natS_back ds.length ds (Nat.le_refl _) (by intro e; subst e; simp at hl) hd h48
    have : ¬ (decV 0 ds < 10000000000000000000) := by
      intro h
      have h2 := natS_len 19 (decV 0 ds).toNat (by omega)
      rw [b1] at h2
      omega
    have hf : fits8 (signed neg (decV 0 ds)) = false := by
      unfold fits8
      cases neg
      · show (decide (-9223372036854775808 ≤ decV 0 ds) && decide (decV 0 ds ≤ 9223372036854775807)) = false
        rw [decide_eq_false (by omega : ¬ (decV 0 ds ≤ 9223372036854775807)), Bool.and_false]
      · show (decide (-9223372036854775808 ≤ -decV 0 ds) && decide (-decV 0 ds ≤ 9223372036854775807)) = false
        rw [decide_eq_false (by omega : ¬ (-9223372036854775808 ≤ -decV 0 ds)), Bool.false_and]
    rw [hf, Bool.and_false]; rfl
theorem dec_take {ds : List UInt8} {k : Nat} (h : k < ds.length) : decV 0 (ds.take (k + 1)) = decV 0 (ds.take k) * 10 + (by8 ds k - 48) := by
  rw [List.take_add_one, List.getElem?_eq_getElem h, decV_append]
  unfold by8
  rw [List.getD_eq_getElem?_getD, List.getElem?_eq_getElem h]
  rfl
theorem wh_zero {W : World} : Wh W false none 0 0 [] 0 := by
  refine ⟨⟨rfl, Or.inl rfl, fun _ => ⟨rfl, rfl⟩, Nat.le_refl _, by decide, ?_⟩, fun h => absurd rfl h, rfl, fun h => by cases h⟩
  intro d hd
  cases hd
set_option maxRecDepth 100000 in
set_option maxHeartbeats 20000000 in
theorem rnumber_plain1 (ds : List UInt8) (w : World) (hd : allD ds) (hl : ds.length ≤ 19) (h0 : 0 < ds.length) (ho : oneB false ds = true)  (h1 : ds.length = 1) : Calls Tryz.prog 146 #[.string (str (ds))] w (RNum false ds w) := by
  have e1 := str_size (ds)
  have e2 := str_size ds
  have e3 := str_list ds
  have e4 : (ByteArray.mk #[48]).toList = ([48] : List UInt8) := str_list [48]
  obtain ⟨T, hT⟩ : ∃ T : Int, T = 10 := ⟨_, rfl⟩
  have T10 : Hid (∀ W, Calls Tryz.prog 169 #[.int .i64 10] W fun e w' => ∃ v, e = .returned v ∧ Below W.heap.size W w' ∧ IsWh w' T 3 v) := fun W => by rw [hT]; exact of_said (of_any 10 W (by decide))
  have HT := hidden hT
  clear hT
  have HDG : Hid (∀ k, k < ds.length → 0 ≤ by8 ds k - 48 ∧ by8 ds k - 48 ≤ 9) := fun k hk => by
    have h1 := hd _ (List.getElem_mem hk)
    unfold by8
    rw [List.getD_eq_getElem?_getD, List.getElem?_eq_getElem hk]
    show 0 ≤ ((ds[k].toNat : Int)) - 48 ∧ ((ds[k].toNat : Int)) - 48 ≤ 9
    omega
  have hlI : (ds.length : Int) ≤ 19 := by omega
  have hl0 : (0 : Int) < (ds.length : Int) := by omega
  have c19 : ¬ ((19 : Int) < (ds.length : Int)) := by omega
  have c19' : decide ((19 : Int) < (ds.length : Int)) = false := decide_eq_false c19
  have HV0 := hidden (var2_new w (.bool false) (.slice none 0 0) 228)
  have HB0 : Hid (Below w.heap.size w (w.alloc (.cells #[.bool false, .slice none 0 0] 228))) := (Below.refl _ _).alloc (Nat.le_refl _) _
  have HFIN : Hid (∀ x, x = signed false (decV 0 ds) → (numO false ds = some (fitV x) ∧ fitB x = true) ∨ (numO false ds = none ∧ fitB x = false)) := fun x hx => by
    subst hx
    unfold numO
    rw [ho, Bool.true_and]
    have hfb : fitB (signed false (decV 0 ds)) = fits8 (signed false (decV 0 ds)) := by unfold fitB fits8; by_cases ha : -9223372036854775808 ≤ signed false (decV 0 ds) <;> by_cases hb : signed false (decV 0 ds) ≤ 9223372036854775807 <;> simp [ha, hb]
    cases hf : fits8 (signed false (decV 0 ds)) with
    | true =>
      rw [hf] at hfb
      refine Or.inl ⟨?_, hfb⟩
      unfold fitV
      rw [if_pos hfb]
      rfl
    | false =>
      rw [hf] at hfb
      exact Or.inr ⟨rfl, hfb⟩
  have g0 := str_get ds 0 (by rw [e2]; exact h0)
  have hdg := HDG.out 0 h0
  have x45 : ¬ (by8 ds 0 = 45) := by omega
  have x45' : decide (by8 ds 0 = 45) = false := decide_eq_false x45
  clear ho hd
  have d1 : ¬ ((1 : Int) < (ds.length : Int)) := by omega
  have d1' : decide ((1 : Int) < (ds.length : Int)) = false := decide_eq_false d1
  clear h1
  go_enter Tryz.func146, Tryz.ntmps146
  go_wp2
  go_loopg [7] ds.length (fun gk i wr => ∃ (k : Nat) (x : Int) (m : Bool) (ad : Option Addr) (l p : Nat) (zs : List Int), k ≤ ds.length ∧ gk = ds.length - k ∧ i = .int .i64 k ∧ x = decV 0 (ds.take k) ∧ Below w.heap.size w wr ∧ Var2 wr w.heap.size (.bool m) (.slice ad l p) ∧ Wh wr m ad l p zs x ∧ l ≤ 7 * k)
  case atStart => exact ⟨0, 0, false, none, 0, 0, [], Nat.zero_le _, rfl, rfl, rfl, HB0.out, HV0.out, wh_zero, Nat.le_refl _⟩
  case round =>
    clear HV0 HB0
    obtain ⟨k, x, m, ad, l, p, zs, hk, rfl, rfl, hx, hbel, v3, hwh, hlb⟩ := hrel
    have HX2 := hidden hx
    clear hx
    by_cases hlt : k < ds.length
    · have hki : (k : Int) < (ds.length : Int) := by omega
      have gi := str_get ds k (by rw [e2]; exact hlt)
      obtain ⟨dv, hdv⟩ : ∃ dv : Int, by8 ds k - 48 = dv := ⟨_, rfl⟩
      have hdb := HDG.out k hlt
      rw [hdv] at hdb
      have hb8 : by8 ds k = 48 + dv := by omega
      rw [hb8] at gi
      have HNX : Hid (x * T + dv = decV 0 (ds.take (k + 1))) := by show _ = _; rw [dec_take hlt, ← HX2.out, hdv, HT.out]
      have zsz : (str ds).size = ds.length := e2
      have Od : Hid (∀ W, Calls Tryz.prog 169 #[.int .i64 dv] W (MadeWh W dv 3)) := fun W => of_any _ W (by omega)
      have wu8 : IntKind.u8.wrap (48 + dv - 48) = dv := by rw [IntKind.wrap_u8']; omega
      have wi64 : IntKind.i64.wrap dv = dv := by rw [IntKind.wrap_i64]; omega
      obtain ⟨B0, hB0⟩ : ∃ B0, w.heap.size = B0 := ⟨_, rfl⟩
      rw [hB0] at v3 hbel ⊢
      clear hdv hb8 HX2
      go_wp2
      refine wp_region_said 10 (fun i u v => match i with
          | 0 => IsWh u x (7 * k) v
          | 1 => IsWh u T 3 v
          | 2 => IsWh u (x * T) (7 * k + 3) v
          | 3 => v = .string (str ds)
          | 4 => v = .int .i64 (k : Int)
          | 5 => v = .int .u8 (48 + dv)
          | 6 => v = .int .u8 dv
          | 7 => v = .int .i64 dv
          | 8 => IsWh u dv 3 v
          | 9 => IsWh u (x * T + dv) (7 * k + 3 + 3 + 1) v
          | _ => True) (by kernel_rfl) (by kernel_rfl) (by kernel_rfl) (by kernel_rfl) ?_ ?_ ?_
      · intro i w v w' h hb
        match i, h with
        | 0, h => exact IsWh.later h hb
        | 1, h => exact IsWh.later h hb
        | 2, h => exact IsWh.later h hb
        | 3, h => exact h
        | 4, h => exact h
        | 5, h => exact h
        | 6, h => exact h
        | 7, h => exact h
        | 8, h => exact IsWh.later h hb
        | 9, h => exact IsWh.later h hb
        | _ + 10, _ => trivial
      · intro i o ρ w' hi ho hb hc hf hfr hdep
        match i, hi with
        | 0, _ =>
          simp only [gTA, gCZ, gSI] at ho
          subst ho
          have ts : ρ (.tmp 6) = .pointer (some ⟨B0, 0, none⟩) := hfr 6 (by kernel_rfl)
          have G := v3.later hb v3.lt
          have c0 := G.c0
          have c1 := G.c1
          simp [go_sem, ts, c0, c1]
          exact ⟨Below.refl _ _, m, ad, l, p, zs, rfl, hwh.below hb, hlb⟩
        | 1, _ =>
          simp only [gTA, gCZ, gCS, gSI] at ho
          subst ho
          simp [go_sem, hf, hc]
          exact ⟨rfl, T10.out _⟩
        | 2, _ =>
          simp only [gTA, gCZ, gCS, gSI] at ho
          subst ho
          obtain ⟨m0, a0, l0, p0, d0, e0, x0, y0⟩ : IsWh w' x (7 * k) (ρ (.tmp 41)) := hdep 0 41 (by kernel_rfl) (by kernel_rfl)
          obtain ⟨m1, a1, l1, p1, d1, e1, x1, y1⟩ : IsWh w' T 3 (ρ (.tmp 42)) := hdep 1 42 (by kernel_rfl) (by kernel_rfl)
          simp [go_sem, e0, e1, hf]
          exact ⟨rfl, times_said ⟨m0, a0, l0, p0, d0, rfl, x0, y0⟩ ⟨m1, a1, l1, p1, d1, rfl, x1, y1⟩ (by omega)⟩
        | 3, _ =>
          simp only [gTA, gCZ, gCS, gSI] at ho
          subst ho
          have ts : ρ (.tmp 5) = .string (str ds) := hfr 5 (by kernel_rfl)
          simp [go_sem, ts]
          exact ⟨Below.refl _ _, rfl⟩
        | 4, _ =>
          simp only [gTA, gCZ, gCS, gSI] at ho
          subst ho
          have ts : ρ (.tmp 7) = .int .i64 (k : Int) := hfr 7 (by kernel_rfl)
          simp [go_sem, ts]
          exact ⟨Below.refl _ _, rfl⟩
        | 5, _ =>
          simp only [gTA, gCZ, gCS, gSI] at ho
          subst ho
          have t1 : ρ (.tmp 44) = .string (str ds) := hdep 3 44 (by kernel_rfl) (by kernel_rfl)
          have t2 : ρ (.tmp 45) = .int .i64 (k : Int) := hdep 4 45 (by kernel_rfl) (by kernel_rfl)
          simp [go_sem, t1, t2, hki, zsz, gi]
          exact ⟨Below.refl _ _, rfl⟩
        | 6, _ =>
          simp only [gTA, gCZ, gCS, gSI] at ho
          subst ho
          have ts : ρ (.tmp 46) = .int .u8 (48 + dv) := hdep 5 46 (by kernel_rfl) (by kernel_rfl)
          simp [go_sem, ts, hc]
          exact ⟨Below.refl _ _, by show Value.int _ _ = _; rw [wu8]⟩
        | 7, _ =>
          simp only [gTA, gCZ, gCS, gSI] at ho
          subst ho
          have ts : ρ (.tmp 47) = .int .u8 dv := hdep 6 47 (by kernel_rfl) (by kernel_rfl)
          simp [go_sem, ts, wi64]
          exact ⟨Below.refl _ _, rfl⟩
        | 8, _ =>
          simp only [gTA, gCZ, gCS, gSI] at ho
          subst ho
          have ts : ρ (.tmp 48) = .int .i64 dv := hdep 7 48 (by kernel_rfl) (by kernel_rfl)
          simp [go_sem, ts, hf]
          exact ⟨rfl, of_said (Od.out _)⟩
        | 9, _ =>
          simp only [gTA, gCZ, gCS, gSI] at ho
          subst ho
          obtain ⟨m0, a0, l0, p0, d0, e0, x0, y0⟩ : IsWh w' (x * T) (7 * k + 3) (ρ (.tmp 43)) := hdep 2 43 (by kernel_rfl) (by kernel_rfl)
          obtain ⟨m1, a1, l1, p1, d1, e1, x1, y1⟩ : IsWh w' dv 3 (ρ (.tmp 49)) := hdep 8 49 (by kernel_rfl) (by kernel_rfl)
          simp [go_sem, e0, e1, hf]
          exact ⟨rfl, plus_said (n := 7 * k + 3) (m := 3) ⟨m0, a0, l0, p0, d0, rfl, x0, y0⟩ ⟨m1, a1, l1, p1, d1, rfl, x1, y1⟩ (by omega)⟩
      · intro V w9 q9 hS
        obtain ⟨m0, a0, l0, p0, d0, e0, -, -⟩ : IsWh w9 x (7 * k) (V 0) := hS 0 (by decide)
        obtain ⟨m1, a1, l1, p1, d1, e1, -, -⟩ : IsWh w9 T 3 (V 1) := hS 1 (by decide)
        obtain ⟨m2, a2, l2, p2, d2, e2, -, -⟩ : IsWh w9 (x * T) (7 * k + 3) (V 2) := hS 2 (by decide)
        have e3 : V 3 = .string (str ds) := hS 3 (by decide)
        have e4 : V 4 = .int .i64 (k : Int) := hS 4 (by decide)
        have e5 : V 5 = .int .u8 (48 + dv) := hS 5 (by decide)
        have e6 : V 6 = .int .u8 dv := hS 6 (by decide)
        have e7 : V 7 = .int .i64 dv := hS 7 (by decide)
        obtain ⟨m8, a8, l8, p8, d8, e8, -, -⟩ : IsWh w9 dv 3 (V 8) := hS 8 (by decide)
        obtain ⟨m9, a9, l9, p9, d9, e9, hw9, hl9⟩ : IsWh w9 (x * T + dv) (7 * k + 3 + 3 + 1) (V 9) := hS 9 (by decide)
        simp only [List.drop_succ_cons, List.drop_zero, List.take_succ_cons, List.take_zero, puts, e0, e1, e2, e3, e4, e5, e6, e7, e8, e9]
        clear hS e0 e1 e2 e3 e4 e5 e6 e7 e8 e9 V
        have R := v3.later q9 v3.lt
        have r0 := R.c0
        have r1 := R.c1
        have f0 := R.f0
        have f1 := R.f1
        have P3 := R.put (.bool m9) (.slice a9 l9 p9)
        have PW := hw9.store2 R (fun _ h => by cases h) (fun _ h => by cases h) (.bool m9) (.slice a9 l9 p9)
        have PB := ((hbel.trans (q9.mono (by rw [← hB0]; exact hbel.size))).setCell (p := ⟨B0, 0, none⟩) (Nat.le_refl _) (.bool m9)).setCell (p := ⟨B0, 1, none⟩) (Nat.le_refl _) (.slice a9 l9 p9)
        clear v3 hwh R hw9 q9 hbel
        go_wp2
        subst hB0
        go_roundg (ds.length - (k + 1))
        case measure => omega
        case rel => exact ⟨k + 1, x * T + dv, m9, a9, l9, p9, d9, by omega, rfl, by go_num, HNX.out, PB, P3, PW, by omega⟩
    · have ek : k = ds.length := by omega
      subst ek
      have hkk : ¬ ((ds.length : Int) < (ds.length : Int)) := by omega
      have HXX : Hid (x = decV 0 ds) := by have := HX2.out; rw [List.take_length] at this; exact this
      clear HX2 HDG T10
      have c0 := v3.c0
      have c1 := v3.c1
      have f0 := v3.f0
      have f1 := v3.f1
      go_wp2_with (go_at_call 171; refine (toInt_any _ _ _ _ _ _ _ hwh).mono ?_; rintro e w1 ⟨rfl, hb1⟩)
      all_goals exact bodyPost_ret (v := .tuple #[.int .i64 (fitV x), .bool (fitB x)]) (by simp [results, Tryz.results146, go_sem]) rfl ⟨fitV x, fitB x, rfl, HFIN.out x HXX.out, hbel.trans (hb1.mono hbel.size)⟩
set_option maxRecDepth 100000 in
set_option maxHeartbeats 20000000 in
theorem rnumber_plain2 (ds : List UInt8) (w : World) (hd : allD ds) (hl : ds.length ≤ 19) (h0 : 0 < ds.length) (ho : oneB false ds = true) (h48 : by8 ds 0 ≠ 48) (h1 : 1 < ds.length) : Calls Tryz.prog 146 #[.string (str (ds))] w (RNum false ds w) := by
  have e1 := str_size (ds)
  have e2 := str_size ds
  have e3 := str_list ds
  have e4 : (ByteArray.mk #[48]).toList = ([48] : List UInt8) := str_list [48]
  obtain ⟨T, hT⟩ : ∃ T : Int, T = 10 := ⟨_, rfl⟩
  have T10 : Hid (∀ W, Calls Tryz.prog 169 #[.int .i64 10] W fun e w' => ∃ v, e = .returned v ∧ Below W.heap.size W w' ∧ IsWh w' T 3 v) := fun W => by rw [hT]; exact of_said (of_any 10 W (by decide))
  have HT := hidden hT
  clear hT
  have HDG : Hid (∀ k, k < ds.length → 0 ≤ by8 ds k - 48 ∧ by8 ds k - 48 ≤ 9) := fun k hk => by
    have h1 := hd _ (List.getElem_mem hk)
    unfold by8
    rw [List.getD_eq_getElem?_getD, List.getElem?_eq_getElem hk]
    show 0 ≤ ((ds[k].toNat : Int)) - 48 ∧ ((ds[k].toNat : Int)) - 48 ≤ 9
    omega
  have hlI : (ds.length : Int) ≤ 19 := by omega
  have hl0 : (0 : Int) < (ds.length : Int) := by omega
  have c19 : ¬ ((19 : Int) < (ds.length : Int)) := by omega
  have c19' : decide ((19 : Int) < (ds.length : Int)) = false := decide_eq_false c19
  have HV0 := hidden (var2_new w (.bool false) (.slice none 0 0) 228)
  have HB0 : Hid (Below w.heap.size w (w.alloc (.cells #[.bool false, .slice none 0 0] 228))) := (Below.refl _ _).alloc (Nat.le_refl _) _
  have HFIN : Hid (∀ x, x = signed false (decV 0 ds) → (numO false ds = some (fitV x) ∧ fitB x = true) ∨ (numO false ds = none ∧ fitB x = false)) := fun x hx => by
    subst hx
    unfold numO
    rw [ho, Bool.true_and]
    have hfb : fitB (signed false (decV 0 ds)) = fits8 (signed false (decV 0 ds)) := by unfold fitB fits8; by_cases ha : -9223372036854775808 ≤ signed false (decV 0 ds) <;> by_cases hb : signed false (decV 0 ds) ≤ 9223372036854775807 <;> simp [ha, hb]
    cases hf : fits8 (signed false (decV 0 ds)) with
    | true =>
      rw [hf] at hfb
      refine Or.inl ⟨?_, hfb⟩
      unfold fitV
      rw [if_pos hfb]
      rfl
    | false =>
      rw [hf] at hfb
      exact Or.inr ⟨rfl, hfb⟩
  have g0 := str_get ds 0 (by rw [e2]; exact h0)
  have hdg := HDG.out 0 h0
  have x45 : ¬ (by8 ds 0 = 45) := by omega
  have x45' : decide (by8 ds 0 = 45) = false := decide_eq_false x45
  clear ho hd
  have d1 : (1 : Int) < (ds.length : Int) := by omega
  have d1' : decide ((1 : Int) < (ds.length : Int)) = true := decide_eq_true d1
  have xb : (by8 ds 0 == 48) = false := by simpa using h48
  have x48 : decide (by8 ds 0 = 48) = false := decide_eq_false h48
  clear h1
  go_enter Tryz.func146, Tryz.ntmps146
  go_wp2
  go_loopg [7] ds.length (fun gk i wr => ∃ (k : Nat) (x : Int) (m : Bool) (ad : Option Addr) (l p : Nat) (zs : List Int), k ≤ ds.length ∧ gk = ds.length - k ∧ i = .int .i64 k ∧ x = decV 0 (ds.take k) ∧ Below w.heap.size w wr ∧ Var2 wr w.heap.size (.bool m) (.slice ad l p) ∧ Wh wr m ad l p zs x ∧ l ≤ 7 * k)
  case atStart => exact ⟨0, 0, false, none, 0, 0, [], Nat.zero_le _, rfl, rfl, rfl, HB0.out, HV0.out, wh_zero, Nat.le_refl _⟩
  case round =>
    clear HV0 HB0
    obtain ⟨k, x, m, ad, l, p, zs, hk, rfl, rfl, hx, hbel, v3, hwh, hlb⟩ := hrel
    have HX2 := hidden hx
    clear hx
    by_cases hlt : k < ds.length
    · have hki : (k : Int) < (ds.length : Int) := by omega
      have gi := str_get ds k (by rw [e2]; exact hlt)
      obtain ⟨dv, hdv⟩ : ∃ dv : Int, by8 ds k - 48 = dv := ⟨_, rfl⟩
      have hdb := HDG.out k hlt
      rw [hdv] at hdb
      have hb8 : by8 ds k = 48 + dv := by omega
      rw [hb8] at gi
      have HNX : Hid (x * T + dv = decV 0 (ds.take (k + 1))) := by show _ = _; rw [dec_take hlt, ← HX2.out, hdv, HT.out]
      have zsz : (str ds).size = ds.length := e2
      have Od : Hid (∀ W, Calls Tryz.prog 169 #[.int .i64 dv] W (MadeWh W dv 3)) := fun W => of_any _ W (by omega)
      have wu8 : IntKind.u8.wrap (48 + dv - 48) = dv := by rw [IntKind.wrap_u8']; omega
      have wi64 : IntKind.i64.wrap dv = dv := by rw [IntKind.wrap_i64]; omega
      obtain ⟨B0, hB0⟩ : ∃ B0, w.heap.size = B0 := ⟨_, rfl⟩
      rw [hB0] at v3 hbel ⊢
      clear hdv hb8 HX2
      go_wp2
      refine wp_region_said 10 (fun i u v => match i with
          | 0 => IsWh u x (7 * k) v
          | 1 => IsWh u T 3 v
          | 2 => IsWh u (x * T) (7 * k + 3) v
          | 3 => v = .string (str ds)
          | 4 => v = .int .i64 (k : Int)
          | 5 => v = .int .u8 (48 + dv)
          | 6 => v = .int .u8 dv
          | 7 => v = .int .i64 dv
          | 8 => IsWh u dv 3 v
          | 9 => IsWh u (x * T + dv) (7 * k + 3 + 3 + 1) v
          | _ => True) (by kernel_rfl) (by kernel_rfl) (by kernel_rfl) (by kernel_rfl) ?_ ?_ ?_
      · intro i w v w' h hb
        match i, h with
        | 0, h => exact IsWh.later h hb
        | 1, h => exact IsWh.later h hb
        | 2, h => exact IsWh.later h hb
        | 3, h => exact h
        | 4, h => exact h
        | 5, h => exact h
        | 6, h => exact h
        | 7, h => exact h
        | 8, h => exact IsWh.later h hb
        | 9, h => exact IsWh.later h hb
        | _ + 10, _ => trivial
      · intro i o ρ w' hi ho hb hc hf hfr hdep
        match i, hi with
        | 0, _ =>
          simp only [gTA, gCZ, gSI] at ho
          subst ho
          have ts : ρ (.tmp 6) = .pointer (some ⟨B0, 0, none⟩) := hfr 6 (by kernel_rfl)
          have G := v3.later hb v3.lt
          have c0 := G.c0
          have c1 := G.c1
          simp [go_sem, ts, c0, c1]
          exact ⟨Below.refl _ _, m, ad, l, p, zs, rfl, hwh.below hb, hlb⟩
        | 1, _ =>
          simp only [gTA, gCZ, gCS, gSI] at ho
          subst ho
          simp [go_sem, hf, hc]
          exact ⟨rfl, T10.out _⟩
        | 2, _ =>
          simp only [gTA, gCZ, gCS, gSI] at ho
          subst ho
          obtain ⟨m0, a0, l0, p0, d0, e0, x0, y0⟩ : IsWh w' x (7 * k) (ρ (.tmp 41)) := hdep 0 41 (by kernel_rfl) (by kernel_rfl)
          obtain ⟨m1, a1, l1, p1, d1, e1, x1, y1⟩ : IsWh w' T 3 (ρ (.tmp 42)) := hdep 1 42 (by kernel_rfl) (by kernel_rfl)
          simp [go_sem, e0, e1, hf]
          exact ⟨rfl, times_said ⟨m0, a0, l0, p0, d0, rfl, x0, y0⟩ ⟨m1, a1, l1, p1, d1, rfl, x1, y1⟩ (by omega)⟩
        | 3, _ =>
          simp only [gTA, gCZ, gCS, gSI] at ho
          subst ho
          have ts : ρ (.tmp 5) = .string (str ds) := hfr 5 (by kernel_rfl)
          simp [go_sem, ts]
          exact ⟨Below.refl _ _, rfl⟩
        | 4, _ =>
          simp only [gTA, gCZ, gCS, gSI] at ho
          subst ho
          have ts : ρ (.tmp 7) = .int .i64 (k : Int) := hfr 7 (by kernel_rfl)
          simp [go_sem, ts]
          exact ⟨Below.refl _ _, rfl⟩
        | 5, _ =>
          simp only [gTA, gCZ, gCS, gSI] at ho
          subst ho
          have t1 : ρ (.tmp 44) = .string (str ds) := hdep 3 44 (by kernel_rfl) (by kernel_rfl)
          have t2 : ρ (.tmp 45) = .int .i64 (k : Int) := hdep 4 45 (by kernel_rfl) (by kernel_rfl)
          simp [go_sem, t1, t2, hki, zsz, gi]
          exact ⟨Below.refl _ _, rfl⟩
        | 6, _ =>
          simp only [gTA, gCZ, gCS, gSI] at ho
          subst ho
          have ts : ρ (.tmp 46) = .int .u8 (48 + dv) := hdep 5 46 (by kernel_rfl) (by kernel_rfl)
          simp [go_sem, ts, hc]
          exact ⟨Below.refl _ _, by show Value.int _ _ = _; rw [wu8]⟩
        | 7, _ =>
          simp only [gTA, gCZ, gCS, gSI] at ho
          subst ho
          have ts : ρ (.tmp 47) = .int .u8 dv := hdep 6 47 (by kernel_rfl) (by kernel_rfl)
          simp [go_sem, ts, wi64]
          exact ⟨Below.refl _ _, rfl⟩
        | 8, _ =>
          simp only [gTA, gCZ, gCS, gSI] at ho
          subst ho
          have ts : ρ (.tmp 48) = .int .i64 dv := hdep 7 48 (by kernel_rfl) (by kernel_rfl)
          simp [go_sem, ts, hf]
          exact ⟨rfl, of_said (Od.out _)⟩
        | 9, _ =>
          simp only [gTA, gCZ, gCS, gSI] at ho
          subst ho
          obtain ⟨m0, a0, l0, p0, d0, e0, x0, y0⟩ : IsWh w' (x * T) (7 * k + 3) (ρ (.tmp 43)) := hdep 2 43 (by kernel_rfl) (by kernel_rfl)
          obtain ⟨m1, a1, l1, p1, d1, e1, x1, y1⟩ : IsWh w' dv 3 (ρ (.tmp 49)) := hdep 8 49 (by kernel_rfl) (by kernel_rfl)
          simp [go_sem, e0, e1, hf]
          exact ⟨rfl, plus_said (n := 7 * k + 3) (m := 3) ⟨m0, a0, l0, p0, d0, rfl, x0, y0⟩ ⟨m1, a1, l1, p1, d1, rfl, x1, y1⟩ (by omega)⟩
      · intro V w9 q9 hS
        obtain ⟨m0, a0, l0, p0, d0, e0, -, -⟩ : IsWh w9 x (7 * k) (V 0) := hS 0 (by decide)
        obtain ⟨m1, a1, l1, p1, d1, e1, -, -⟩ : IsWh w9 T 3 (V 1) := hS 1 (by decide)
        obtain ⟨m2, a2, l2, p2, d2, e2, -, -⟩ : IsWh w9 (x * T) (7 * k + 3) (V 2) := hS 2 (by decide)
        have e3 : V 3 = .string (str ds) := hS 3 (by decide)
        have e4 : V 4 = .int .i64 (k : Int) := hS 4 (by decide)
        have e5 : V 5 = .int .u8 (48 + dv) := hS 5 (by decide)
        have e6 : V 6 = .int .u8 dv := hS 6 (by decide)
        have e7 : V 7 = .int .i64 dv := hS 7 (by decide)
        obtain ⟨m8, a8, l8, p8, d8, e8, -, -⟩ : IsWh w9 dv 3 (V 8) := hS 8 (by decide)
        obtain ⟨m9, a9, l9, p9, d9, e9, hw9, hl9⟩ : IsWh w9 (x * T + dv) (7 * k + 3 + 3 + 1) (V 9) := hS 9 (by decide)
        simp only [List.drop_succ_cons, List.drop_zero, List.take_succ_cons, List.take_zero, puts, e0, e1, e2, e3, e4, e5, e6, e7, e8, e9]
        clear hS e0 e1 e2 e3 e4 e5 e6 e7 e8 e9 V
        have R := v3.later q9 v3.lt
        have r0 := R.c0
        have r1 := R.c1
        have f0 := R.f0
        have f1 := R.f1
        have P3 := R.put (.bool m9) (.slice a9 l9 p9)
        have PW := hw9.store2 R (fun _ h => by cases h) (fun _ h => by cases h) (.bool m9) (.slice a9 l9 p9)
        have PB := ((hbel.trans (q9.mono (by rw [← hB0]; exact hbel.size))).setCell (p := ⟨B0, 0, none⟩) (Nat.le_refl _) (.bool m9)).setCell (p := ⟨B0, 1, none⟩) (Nat.le_refl _) (.slice a9 l9 p9)
        clear v3 hwh R hw9 q9 hbel
        go_wp2
        subst hB0
        go_roundg (ds.length - (k + 1))
        case measure => omega
        case rel => exact ⟨k + 1, x * T + dv, m9, a9, l9, p9, d9, by omega, rfl, by go_num, HNX.out, PB, P3, PW, by omega⟩
    · have ek : k = ds.length := by omega
      subst ek
      have hkk : ¬ ((ds.length : Int) < (ds.length : Int)) := by omega
      have HXX : Hid (x = decV 0 ds) := by have := HX2.out; rw [List.take_length] at this; exact this
      clear HX2 HDG T10
      have c0 := v3.c0
      have c1 := v3.c1
      have f0 := v3.f0
      have f1 := v3.f1
      go_wp2_with (go_at_call 171; refine (toInt_any _ _ _ _ _ _ _ hwh).mono ?_; rintro e w1 ⟨rfl, hb1⟩)
      all_goals exact bodyPost_ret (v := .tuple #[.int .i64 (fitV x), .bool (fitB x)]) (by simp [results, Tryz.results146, go_sem]) rfl ⟨fitV x, fitB x, rfl, HFIN.out x HXX.out, hbel.trans (hb1.mono hbel.size)⟩
set_option maxRecDepth 100000 in
set_option maxHeartbeats 20000000 in
theorem rnumber_minus1 (ds : List UInt8) (w : World) (hd : allD ds) (hl : ds.length ≤ 19) (h0 : 0 < ds.length) (ho : oneB true ds = true) (h48 : by8 ds 0 ≠ 48) (h1 : ds.length = 1) : Calls Tryz.prog 146 #[.string (str (45 :: ds))] w (RNum true ds w) := by
  have e1 := str_size (45 :: ds)
  have e2 := str_size ds
  have e3 := str_list ds
  have e4 : (ByteArray.mk #[48]).toList = ([48] : List UInt8) := str_list [48]
  obtain ⟨T, hT⟩ : ∃ T : Int, T = 10 := ⟨_, rfl⟩
  have T10 : Hid (∀ W, Calls Tryz.prog 169 #[.int .i64 10] W fun e w' => ∃ v, e = .returned v ∧ Below W.heap.size W w' ∧ IsWh w' T 3 v) := fun W => by rw [hT]; exact of_said (of_any 10 W (by decide))
  have HT := hidden hT
  clear hT
  have HDG : Hid (∀ k, k < ds.length → 0 ≤ by8 ds k - 48 ∧ by8 ds k - 48 ≤ 9) := fun k hk => by
    have h1 := hd _ (List.getElem_mem hk)
    unfold by8
    rw [List.getD_eq_getElem?_getD, List.getElem?_eq_getElem hk]
    show 0 ≤ ((ds[k].toNat : Int)) - 48 ∧ ((ds[k].toNat : Int)) - 48 ≤ 9
    omega
  have hlI : (ds.length : Int) ≤ 19 := by omega
  have hl0 : (0 : Int) < (ds.length : Int) := by omega
  have c19 : ¬ ((19 : Int) < (ds.length : Int)) := by omega
  have c19' : decide ((19 : Int) < (ds.length : Int)) = false := decide_eq_false c19
  have HV0 := hidden (var2_new w (.bool false) (.slice none 0 0) 228)
  have HB0 : Hid (Below w.heap.size w (w.alloc (.cells #[.bool false, .slice none 0 0] 228))) := (Below.refl _ _).alloc (Nat.le_refl _) _
  have HFIN : Hid (∀ x, x = signed true (decV 0 ds) → (numO true ds = some (fitV x) ∧ fitB x = true) ∨ (numO true ds = none ∧ fitB x = false)) := fun x hx => by
    subst hx
    unfold numO
    rw [ho, Bool.true_and]
    have hfb : fitB (signed true (decV 0 ds)) = fits8 (signed true (decV 0 ds)) := by unfold fitB fits8; by_cases ha : -9223372036854775808 ≤ signed true (decV 0 ds) <;> by_cases hb : signed true (decV 0 ds) ≤ 9223372036854775807 <;> simp [ha, hb]
    cases hf : fits8 (signed true (decV 0 ds)) with
    | true =>
      rw [hf] at hfb
      refine Or.inl ⟨?_, hfb⟩
      unfold fitV
      rw [if_pos hfb]
      rfl
    | false =>
      rw [hf] at hfb
      exact Or.inr ⟨rfl, hfb⟩
  have g0 := str_get ds 0 (by rw [e2]; exact h0)
  have s0 := str_get (45 :: ds) 0 (by rw [e1]; simp)
  have s1 : by8 (45 :: ds) 0 = 45 := rfl
  rw [s1] at s0
  have e1' : (str (45 :: ds)).size = ds.length + 1 := by rw [e1]; rfl
  have HX : (str (45 :: ds)).extract 1 (ds.length + 1) = str ds := by
    have := str_cut (45 :: ds) 1 ds.length
    rw [Nat.add_comm 1] at this
    rw [this]
    simp
  have xne : (ds == [48]) = false := by
    have : ¬ (ds = [48]) := by intro e; subst e; exact h48 rfl
    simpa using this
  clear ho hd
  have d1 : ¬ ((1 : Int) < (ds.length : Int)) := by omega
  have d1' : decide ((1 : Int) < (ds.length : Int)) = false := decide_eq_false d1
  clear h1
  go_enter Tryz.func146, Tryz.ntmps146
  go_wp2
  go_loopg [7] ds.length (fun gk i wr => ∃ (k : Nat) (x : Int) (m : Bool) (ad : Option Addr) (l p : Nat) (zs : List Int), k ≤ ds.length ∧ gk = ds.length - k ∧ i = .int .i64 k ∧ x = decV 0 (ds.take k) ∧ Below w.heap.size w wr ∧ Var2 wr w.heap.size (.bool m) (.slice ad l p) ∧ Wh wr m ad l p zs x ∧ l ≤ 7 * k)
  case atStart => exact ⟨0, 0, false, none, 0, 0, [], Nat.zero_le _, rfl, rfl, rfl, HB0.out, HV0.out, wh_zero, Nat.le_refl _⟩
  case round =>
    clear HV0 HB0
    obtain ⟨k, x, m, ad, l, p, zs, hk, rfl, rfl, hx, hbel, v3, hwh, hlb⟩ := hrel
    have HX2 := hidden hx
    clear hx
    by_cases hlt : k < ds.length
    · have hki : (k : Int) < (ds.length : Int) := by omega
      have gi := str_get ds k (by rw [e2]; exact hlt)
      obtain ⟨dv, hdv⟩ : ∃ dv : Int, by8 ds k - 48 = dv := ⟨_, rfl⟩
      have hdb := HDG.out k hlt
      rw [hdv] at hdb
      have hb8 : by8 ds k = 48 + dv := by omega
      rw [hb8] at gi
      have HNX : Hid (x * T + dv = decV 0 (ds.take (k + 1))) := by show _ = _; rw [dec_take hlt, ← HX2.out, hdv, HT.out]
      have zsz : (str ds).size = ds.length := e2
      have Od : Hid (∀ W, Calls Tryz.prog 169 #[.int .i64 dv] W (MadeWh W dv 3)) := fun W => of_any _ W (by omega)
      have wu8 : IntKind.u8.wrap (48 + dv - 48) = dv := by rw [IntKind.wrap_u8']; omega
      have wi64 : IntKind.i64.wrap dv = dv := by rw [IntKind.wrap_i64]; omega
      obtain ⟨B0, hB0⟩ : ∃ B0, w.heap.size = B0 := ⟨_, rfl⟩
      rw [hB0] at v3 hbel ⊢
      clear hdv hb8 HX2
      go_wp2
      refine wp_region_said 10 (fun i u v => match i with
          | 0 => IsWh u x (7 * k) v
          | 1 => IsWh u T 3 v
          | 2 => IsWh u (x * T) (7 * k + 3) v
          | 3 => v = .string (str ds)
          | 4 => v = .int .i64 (k : Int)
          | 5 => v = .int .u8 (48 + dv)
          | 6 => v = .int .u8 dv
          | 7 => v = .int .i64 dv
          | 8 => IsWh u dv 3 v
          | 9 => IsWh u (x * T + dv) (7 * k + 3 + 3 + 1) v
          | _ => True) (by kernel_rfl) (by kernel_rfl) (by kernel_rfl) (by kernel_rfl) ?_ ?_ ?_
      · intro i w v w' h hb
        match i, h with
        | 0, h => exact IsWh.later h hb
        | 1, h => exact IsWh.later h hb
        | 2, h => exact IsWh.later h hb
        | 3, h => exact h
        | 4, h => exact h
        | 5, h => exact h
        | 6, h => exact h
        | 7, h => exact h
        | 8, h => exact IsWh.later h hb
        | 9, h => exact IsWh.later h hb
        | _ + 10, _ => trivial
      · intro i o ρ w' hi ho hb hc hf hfr hdep
        match i, hi with
        | 0, _ =>
          simp only [gTA, gCZ, gSI] at ho
          subst ho
          have ts : ρ (.tmp 6) = .pointer (some ⟨B0, 0, none⟩) := hfr 6 (by kernel_rfl)
          have G := v3.later hb v3.lt
          have c0 := G.c0
          have c1 := G.c1
          simp [go_sem, ts, c0, c1]
          exact ⟨Below.refl _ _, m, ad, l, p, zs, rfl, hwh.below hb, hlb⟩
        | 1, _ =>
          simp only [gTA, gCZ, gCS, gSI] at ho
          subst ho
          simp [go_sem, hf, hc]
          exact ⟨rfl, T10.out _⟩
        | 2, _ =>
          simp only [gTA, gCZ, gCS, gSI] at ho
          subst ho
          obtain ⟨m0, a0, l0, p0, d0, e0, x0, y0⟩ : IsWh w' x (7 * k) (ρ (.tmp 41)) := hdep 0 41 (by kernel_rfl) (by kernel_rfl)
          obtain ⟨m1, a1, l1, p1, d1, e1, x1, y1⟩ : IsWh w' T 3 (ρ (.tmp 42)) := hdep 1 42 (by kernel_rfl) (by kernel_rfl)
          simp [go_sem, e0, e1, hf]
          exact ⟨rfl, times_said ⟨m0, a0, l0, p0, d0, rfl, x0, y0⟩ ⟨m1, a1, l1, p1, d1, rfl, x1, y1⟩ (by omega)⟩
        | 3, _ =>
          simp only [gTA, gCZ, gCS, gSI] at ho
          subst ho
          have ts : ρ (.tmp 5) = .string (str ds) := hfr 5 (by kernel_rfl)
          simp [go_sem, ts]
          exact ⟨Below.refl _ _, rfl⟩
        | 4, _ =>
          simp only [gTA, gCZ, gCS, gSI] at ho
          subst ho
          have ts : ρ (.tmp 7) = .int .i64 (k : Int) := hfr 7 (by kernel_rfl)
          simp [go_sem, ts]
          exact ⟨Below.refl _ _, rfl⟩
        | 5, _ =>
          simp only [gTA, gCZ, gCS, gSI] at ho
          subst ho
          have t1 : ρ (.tmp 44) = .string (str ds) := hdep 3 44 (by kernel_rfl) (by kernel_rfl)
          have t2 : ρ (.tmp 45) = .int .i64 (k : Int) := hdep 4 45 (by kernel_rfl) (by kernel_rfl)
          simp [go_sem, t1, t2, hki, zsz, gi]
          exact ⟨Below.refl _ _, rfl⟩
        | 6, _ =>
          simp only [gTA, gCZ, gCS, gSI] at ho
          subst ho
          have ts : ρ (.tmp 46) = .int .u8 (48 + dv) := hdep 5 46 (by kernel_rfl) (by kernel_rfl)
          simp [go_sem, ts, hc]
          exact ⟨Below.refl _ _, by show Value.int _ _ = _; rw [wu8]⟩
        | 7, _ =>
          simp only [gTA, gCZ, gCS, gSI] at ho
          subst ho
          have ts : ρ (.tmp 47) = .int .u8 dv := hdep 6 47 (by kernel_rfl) (by kernel_rfl)
          simp [go_sem, ts, wi64]
          exact ⟨Below.refl _ _, rfl⟩
        | 8, _ =>
          simp only [gTA, gCZ, gCS, gSI] at ho
          subst ho
          have ts : ρ (.tmp 48) = .int .i64 dv := hdep 7 48 (by kernel_rfl) (by kernel_rfl)
          simp [go_sem, ts, hf]
          exact ⟨rfl, of_said (Od.out _)⟩
        | 9, _ =>
          simp only [gTA, gCZ, gCS, gSI] at ho
          subst ho
          obtain ⟨m0, a0, l0, p0, d0, e0, x0, y0⟩ : IsWh w' (x * T) (7 * k + 3) (ρ (.tmp 43)) := hdep 2 43 (by kernel_rfl) (by kernel_rfl)
          obtain ⟨m1, a1, l1, p1, d1, e1, x1, y1⟩ : IsWh w' dv 3 (ρ (.tmp 49)) := hdep 8 49 (by kernel_rfl) (by kernel_rfl)
          simp [go_sem, e0, e1, hf]
          exact ⟨rfl, plus_said (n := 7 * k + 3) (m := 3) ⟨m0, a0, l0, p0, d0, rfl, x0, y0⟩ ⟨m1, a1, l1, p1, d1, rfl, x1, y1⟩ (by omega)⟩
      · intro V w9 q9 hS
        obtain ⟨m0, a0, l0, p0, d0, e0, -, -⟩ : IsWh w9 x (7 * k) (V 0) := hS 0 (by decide)
        obtain ⟨m1, a1, l1, p1, d1, e1, -, -⟩ : IsWh w9 T 3 (V 1) := hS 1 (by decide)
        obtain ⟨m2, a2, l2, p2, d2, e2, -, -⟩ : IsWh w9 (x * T) (7 * k + 3) (V 2) := hS 2 (by decide)
        have e3 : V 3 = .string (str ds) := hS 3 (by decide)
        have e4 : V 4 = .int .i64 (k : Int) := hS 4 (by decide)
        have e5 : V 5 = .int .u8 (48 + dv) := hS 5 (by decide)
        have e6 : V 6 = .int .u8 dv := hS 6 (by decide)
        have e7 : V 7 = .int .i64 dv := hS 7 (by decide)
        obtain ⟨m8, a8, l8, p8, d8, e8, -, -⟩ : IsWh w9 dv 3 (V 8) := hS 8 (by decide)
        obtain ⟨m9, a9, l9, p9, d9, e9, hw9, hl9⟩ : IsWh w9 (x * T + dv) (7 * k + 3 + 3 + 1) (V 9) := hS 9 (by decide)
        simp only [List.drop_succ_cons, List.drop_zero, List.take_succ_cons, List.take_zero, puts, e0, e1, e2, e3, e4, e5, e6, e7, e8, e9]
        clear hS e0 e1 e2 e3 e4 e5 e6 e7 e8 e9 V
        have R := v3.later q9 v3.lt
        have r0 := R.c0
        have r1 := R.c1
        have f0 := R.f0
        have f1 := R.f1
        have P3 := R.put (.bool m9) (.slice a9 l9 p9)
        have PW := hw9.store2 R (fun _ h => by cases h) (fun _ h => by cases h) (.bool m9) (.slice a9 l9 p9)
        have PB := ((hbel.trans (q9.mono (by rw [← hB0]; exact hbel.size))).setCell (p := ⟨B0, 0, none⟩) (Nat.le_refl _) (.bool m9)).setCell (p := ⟨B0, 1, none⟩) (Nat.le_refl _) (.slice a9 l9 p9)
        clear v3 hwh R hw9 q9 hbel
        go_wp2
        subst hB0
        go_roundg (ds.length - (k + 1))
        case measure => omega
        case rel => exact ⟨k + 1, x * T + dv, m9, a9, l9, p9, d9, by omega, rfl, by go_num, HNX.out, PB, P3, PW, by omega⟩
    · have ek : k = ds.length := by omega
      subst ek
      have hkk : ¬ ((ds.length : Int) < (ds.length : Int)) := by omega
      have HXX : Hid (x = decV 0 ds) := by have := HX2.out; rw [List.take_length] at this; exact this
      clear HX2 HDG T10
      have c0 := v3.c0
      have c1 := v3.c1
      have f0 := v3.f0
      have f1 := v3.f1
      go_wp2_with (first
        | (go_at_call 171; refine (toInt_any _ _ _ _ _ _ _ PW.out).mono ?_; rintro e w2 ⟨rfl, hb2⟩)
        | (go_at_call 170; refine (negative_any _ _ _ _ _ _ _ hwh).mono ?_; rintro e w1 ⟨m1, a1, l1, p1, d1, rfl, hw1, hb1, hl1⟩; have R := v3.later hb1 v3.lt; have r0 := R.c0; have r1 := R.c1; have f2 := R.f0; have f3 := R.f1; have u0 := (R.put (.bool m1) (.slice a1 l1 p1)).c0; have u1 := (R.put (.bool m1) (.slice a1 l1 p1)).c1; have PW := hidden (hw1.store2 R (fun _ h => by cases h) (fun _ h => by cases h) (.bool m1) (.slice a1 l1 p1)); have PB := hidden (((hbel.trans (hb1.mono hbel.size)).setCell (p := ⟨w.heap.size, 0, none⟩) (Nat.le_refl _) (.bool m1)).setCell (p := ⟨w.heap.size, 1, none⟩) (Nat.le_refl _) (.slice a1 l1 p1))))
      all_goals exact bodyPost_ret (v := .tuple #[.int .i64 (fitV (-x)), .bool (fitB (-x))]) (by simp [results, Tryz.results146, go_sem]) rfl ⟨fitV (-x), fitB (-x), rfl, HFIN.out (-x) (by rw [HXX.out]; rfl), PB.out.trans (hb2.mono PB.out.size)⟩
set_option maxRecDepth 100000 in
set_option maxHeartbeats 20000000 in
theorem rnumber_minus2 (ds : List UInt8) (w : World) (hd : allD ds) (hl : ds.length ≤ 19) (h0 : 0 < ds.length) (ho : oneB true ds = true) (h48 : by8 ds 0 ≠ 48) (h1 : 1 < ds.length) : Calls Tryz.prog 146 #[.string (str (45 :: ds))] w (RNum true ds w) := by
  have e1 := str_size (45 :: ds)
  have e2 := str_size ds
  have e3 := str_list ds
  have e4 : (ByteArray.mk #[48]).toList = ([48] : List UInt8) := str_list [48]
  obtain ⟨T, hT⟩ : ∃ T : Int, T = 10 := ⟨_, rfl⟩
  have T10 : Hid (∀ W, Calls Tryz.prog 169 #[.int .i64 10] W fun e w' => ∃ v, e = .returned v ∧ Below W.heap.size W w' ∧ IsWh w' T 3 v) := fun W => by rw [hT]; exact of_said (of_any 10 W (by decide))
  have HT := hidden hT
  clear hT
  have HDG : Hid (∀ k, k < ds.length → 0 ≤ by8 ds k - 48 ∧ by8 ds k - 48 ≤ 9) := fun k hk => by
    have h1 := hd _ (List.getElem_mem hk)
    unfold by8
    rw [List.getD_eq_getElem?_getD, List.getElem?_eq_getElem hk]
    show 0 ≤ ((ds[k].toNat : Int)) - 48 ∧ ((ds[k].toNat : Int)) - 48 ≤ 9
    omega
  have hlI : (ds.length : Int) ≤ 19 := by omega
  have hl0 : (0 : Int) < (ds.length : Int) := by omega
  have c19 : ¬ ((19 : Int) < (ds.length : Int)) := by omega
  have c19' : decide ((19 : Int) < (ds.length : Int)) = false := decide_eq_false c19
  have HV0 := hidden (var2_new w (.bool false) (.slice none 0 0) 228)
  have HB0 : Hid (Below w.heap.size w (w.alloc (.cells #[.bool false, .slice none 0 0] 228))) := (Below.refl _ _).alloc (Nat.le_refl _) _
  have HFIN : Hid (∀ x, x = signed true (decV 0 ds) → (numO true ds = some (fitV x) ∧ fitB x = true) ∨ (numO true ds = none ∧ fitB x = false)) := fun x hx => by
    subst hx
    unfold numO
    rw [ho, Bool.true_and]
    have hfb : fitB (signed true (decV 0 ds)) = fits8 (signed true (decV 0 ds)) := by unfold fitB fits8; by_cases ha : -9223372036854775808 ≤ signed true (decV 0 ds) <;> by_cases hb : signed true (decV 0 ds) ≤ 9223372036854775807 <;> simp [ha, hb]
    cases hf : fits8 (signed true (decV 0 ds)) with
    | true =>
      rw [hf] at hfb
      refine Or.inl ⟨?_, hfb⟩
      unfold fitV
      rw [if_pos hfb]
      rfl
    | false =>
      rw [hf] at hfb
      exact Or.inr ⟨rfl, hfb⟩
  have g0 := str_get ds 0 (by rw [e2]; exact h0)
  have s0 := str_get (45 :: ds) 0 (by rw [e1]; simp)
  have s1 : by8 (45 :: ds) 0 = 45 := rfl
  rw [s1] at s0
  have e1' : (str (45 :: ds)).size = ds.length + 1 := by rw [e1]; rfl
  have HX : (str (45 :: ds)).extract 1 (ds.length + 1) = str ds := by
    have := str_cut (45 :: ds) 1 ds.length
    rw [Nat.add_comm 1] at this
    rw [this]
    simp
  have xne : (ds == [48]) = false := by
    have : ¬ (ds = [48]) := by intro e; subst e; exact h48 rfl
    simpa using this
  clear ho hd
  have d1 : (1 : Int) < (ds.length : Int) := by omega
  have d1' : decide ((1 : Int) < (ds.length : Int)) = true := decide_eq_true d1
  have xb : (by8 ds 0 == 48) = false := by simpa using h48
  have x48 : decide (by8 ds 0 = 48) = false := decide_eq_false h48
  clear h1
  go_enter Tryz.func146, Tryz.ntmps146
  go_wp2
  go_loopg [7] ds.length (fun gk i wr => ∃ (k : Nat) (x : Int) (m : Bool) (ad : Option Addr) (l p : Nat) (zs : List Int), k ≤ ds.length ∧ gk = ds.length - k ∧ i = .int .i64 k ∧ x = decV 0 (ds.take k) ∧ Below w.heap.size w wr ∧ Var2 wr w.heap.size (.bool m) (.slice ad l p) ∧ Wh wr m ad l p zs x ∧ l ≤ 7 * k)
  case atStart => exact ⟨0, 0, false, none, 0, 0, [], Nat.zero_le _, rfl, rfl, rfl, HB0.out, HV0.out, wh_zero, Nat.le_refl _⟩
  case round =>
    clear HV0 HB0
    obtain ⟨k, x, m, ad, l, p, zs, hk, rfl, rfl, hx, hbel, v3, hwh, hlb⟩ := hrel
    have HX2 := hidden hx
    clear hx
    by_cases hlt : k < ds.length
    · have hki : (k : Int) < (ds.length : Int) := by omega
      have gi := str_get ds k (by rw [e2]; exact hlt)
      obtain ⟨dv, hdv⟩ : ∃ dv : Int, by8 ds k - 48 = dv := ⟨_, rfl⟩
      have hdb := HDG.out k hlt
      rw [hdv] at hdb
      have hb8 : by8 ds k = 48 + dv := by omega
      rw [hb8] at gi
      have HNX : Hid (x * T + dv = decV 0 (ds.take (k + 1))) := by show _ = _; rw [dec_take hlt, ← HX2.out, hdv, HT.out]
      have zsz : (str ds).size = ds.length := e2
      have Od : Hid (∀ W, Calls Tryz.prog 169 #[.int .i64 dv] W (MadeWh W dv 3)) := fun W => of_any _ W (by omega)
      have wu8 : IntKind.u8.wrap (48 + dv - 48) = dv := by rw [IntKind.wrap_u8']; omega
      have wi64 : IntKind.i64.wrap dv = dv := by rw [IntKind.wrap_i64]; omega
      obtain ⟨B0, hB0⟩ : ∃ B0, w.heap.size = B0 := ⟨_, rfl⟩
      rw [hB0] at v3 hbel ⊢
      clear hdv hb8 HX2
      go_wp2
      refine wp_region_said 10 (fun i u v => match i with
          | 0 => IsWh u x (7 * k) v
          | 1 => IsWh u T 3 v
          | 2 => IsWh u (x * T) (7 * k + 3) v
          | 3 => v = .string (str ds)
          | 4 => v = .int .i64 (k : Int)
          | 5 => v = .int .u8 (48 + dv)
          | 6 => v = .int .u8 dv
          | 7 => v = .int .i64 dv
          | 8 => IsWh u dv 3 v
          | 9 => IsWh u (x * T + dv) (7 * k + 3 + 3 + 1) v
          | _ => True) (by kernel_rfl) (by kernel_rfl) (by kernel_rfl) (by kernel_rfl) ?_ ?_ ?_
      · intro i w v w' h hb
        match i, h with
        | 0, h => exact IsWh.later h hb
        | 1, h => exact IsWh.later h hb
        | 2, h => exact IsWh.later h hb
        | 3, h => exact h
        | 4, h => exact h
        | 5, h => exact h
        | 6, h => exact h
        | 7, h => exact h
        | 8, h => exact IsWh.later h hb
        | 9, h => exact IsWh.later h hb
        | _ + 10, _ => trivial
      · intro i o ρ w' hi ho hb hc hf hfr hdep
        match i, hi with
        | 0, _ =>
          simp only [gTA, gCZ, gSI] at ho
          subst ho
          have ts : ρ (.tmp 6) = .pointer (some ⟨B0, 0, none⟩) := hfr 6 (by kernel_rfl)
          have G := v3.later hb v3.lt
          have c0 := G.c0
          have c1 := G.c1
          simp [go_sem, ts, c0, c1]
          exact ⟨Below.refl _ _, m, ad, l, p, zs, rfl, hwh.below hb, hlb⟩
        | 1, _ =>
          simp only [gTA, gCZ, gCS, gSI] at ho
          subst ho
          simp [go_sem, hf, hc]
          exact ⟨rfl, T10.out _⟩
        | 2, _ =>
          simp only [gTA, gCZ, gCS, gSI] at ho
          subst ho
          obtain ⟨m0, a0, l0, p0, d0, e0, x0, y0⟩ : IsWh w' x (7 * k) (ρ (.tmp 41)) := hdep 0 41 (by kernel_rfl) (by kernel_rfl)
          obtain ⟨m1, a1, l1, p1, d1, e1, x1, y1⟩ : IsWh w' T 3 (ρ (.tmp 42)) := hdep 1 42 (by kernel_rfl) (by kernel_rfl)
          simp [go_sem, e0, e1, hf]
          exact ⟨rfl, times_said ⟨m0, a0, l0, p0, d0, rfl, x0, y0⟩ ⟨m1, a1, l1, p1, d1, rfl, x1, y1⟩ (by omega)⟩
        | 3, _ =>
          simp only [gTA, gCZ, gCS, gSI] at ho
          subst ho
          have ts : ρ (.tmp 5) = .string (str ds) := hfr 5 (by kernel_rfl)
          simp [go_sem, ts]
          exact ⟨Below.refl _ _, rfl⟩
        | 4, _ =>
          simp only [gTA, gCZ, gCS, gSI] at ho
          subst ho
          have ts : ρ (.tmp 7) = .int .i64 (k : Int) := hfr 7 (by kernel_rfl)
          simp [go_sem, ts]
          exact ⟨Below.refl _ _, rfl⟩
        | 5, _ =>
          simp only [gTA, gCZ, gCS, gSI] at ho
          subst ho
          have t1 : ρ (.tmp 44) = .string (str ds) := hdep 3 44 (by kernel_rfl) (by kernel_rfl)
          have t2 : ρ (.tmp 45) = .int .i64 (k : Int) := hdep 4 45 (by kernel_rfl) (by kernel_rfl)
          simp [go_sem, t1, t2, hki, zsz, gi]
          exact ⟨Below.refl _ _, rfl⟩
        | 6, _ =>
          simp only [gTA, gCZ, gCS, gSI] at ho
          subst ho
          have ts : ρ (.tmp 46) = .int .u8 (48 + dv) := hdep 5 46 (by kernel_rfl) (by kernel_rfl)
          simp [go_sem, ts, hc]
          exact ⟨Below.refl _ _, by show Value.int _ _ = _; rw [wu8]⟩
        | 7, _ =>
          simp only [gTA, gCZ, gCS, gSI] at ho
          subst ho
          have ts : ρ (.tmp 47) = .int .u8 dv := hdep 6 47 (by kernel_rfl) (by kernel_rfl)
          simp [go_sem, ts, wi64]
          exact ⟨Below.refl _ _, rfl⟩
        | 8, _ =>
          simp only [gTA, gCZ, gCS, gSI] at ho
          subst ho
          have ts : ρ (.tmp 48) = .int .i64 dv := hdep 7 48 (by kernel_rfl) (by kernel_rfl)
          simp [go_sem, ts, hf]
          exact ⟨rfl, of_said (Od.out _)⟩
        | 9, _ =>
          simp only [gTA, gCZ, gCS, gSI] at ho
          subst ho
          obtain ⟨m0, a0, l0, p0, d0, e0, x0, y0⟩ : IsWh w' (x * T) (7 * k + 3) (ρ (.tmp 43)) := hdep 2 43 (by kernel_rfl) (by kernel_rfl)
          obtain ⟨m1, a1, l1, p1, d1, e1, x1, y1⟩ : IsWh w' dv 3 (ρ (.tmp 49)) := hdep 8 49 (by kernel_rfl) (by kernel_rfl)
          simp [go_sem, e0, e1, hf]
          exact ⟨rfl, plus_said (n := 7 * k + 3) (m := 3) ⟨m0, a0, l0, p0, d0, rfl, x0, y0⟩ ⟨m1, a1, l1, p1, d1, rfl, x1, y1⟩ (by omega)⟩
      · intro V w9 q9 hS
        obtain ⟨m0, a0, l0, p0, d0, e0, -, -⟩ : IsWh w9 x (7 * k) (V 0) := hS 0 (by decide)
        obtain ⟨m1, a1, l1, p1, d1, e1, -, -⟩ : IsWh w9 T 3 (V 1) := hS 1 (by decide)
        obtain ⟨m2, a2, l2, p2, d2, e2, -, -⟩ : IsWh w9 (x * T) (7 * k + 3) (V 2) := hS 2 (by decide)
        have e3 : V 3 = .string (str ds) := hS 3 (by decide)
        have e4 : V 4 = .int .i64 (k : Int) := hS 4 (by decide)
        have e5 : V 5 = .int .u8 (48 + dv) := hS 5 (by decide)
        have e6 : V 6 = .int .u8 dv := hS 6 (by decide)
        have e7 : V 7 = .int .i64 dv := hS 7 (by decide)
        obtain ⟨m8, a8, l8, p8, d8, e8, -, -⟩ : IsWh w9 dv 3 (V 8) := hS 8 (by decide)
        obtain ⟨m9, a9, l9, p9, d9, e9, hw9, hl9⟩ : IsWh w9 (x * T + dv) (7 * k + 3 + 3 + 1) (V 9) := hS 9 (by decide)
        simp only [List.drop_succ_cons, List.drop_zero, List.take_succ_cons, List.take_zero, puts, e0, e1, e2, e3, e4, e5, e6, e7, e8, e9]
        clear hS e0 e1 e2 e3 e4 e5 e6 e7 e8 e9 V
        have R := v3.later q9 v3.lt
        have r0 := R.c0
        have r1 := R.c1
        have f0 := R.f0
        have f1 := R.f1
        have P3 := R.put (.bool m9) (.slice a9 l9 p9)
        have PW := hw9.store2 R (fun _ h => by cases h) (fun _ h => by cases h) (.bool m9) (.slice a9 l9 p9)
        have PB := ((hbel.trans (q9.mono (by rw [← hB0]; exact hbel.size))).setCell (p := ⟨B0, 0, none⟩) (Nat.le_refl _) (.bool m9)).setCell (p := ⟨B0, 1, none⟩) (Nat.le_refl _) (.slice a9 l9 p9)
        clear v3 hwh R hw9 q9 hbel
        go_wp2
        subst hB0
        go_roundg (ds.length - (k + 1))
        case measure => omega
        case rel => exact ⟨k + 1, x * T + dv, m9, a9, l9, p9, d9, by omega, rfl, by go_num, HNX.out, PB, P3, PW, by omega⟩
    · have ek : k = ds.length := by omega
      subst ek
      have hkk : ¬ ((ds.length : Int) < (ds.length : Int)) := by omega
      have HXX : Hid (x = decV 0 ds) := by have := HX2.out; rw [List.take_length] at this; exact this
      clear HX2 HDG T10
      have c0 := v3.c0
      have c1 := v3.c1
      have f0 := v3.f0
      have f1 := v3.f1
      go_wp2_with (first
        | (go_at_call 171; refine (toInt_any _ _ _ _ _ _ _ PW.out).mono ?_; rintro e w2 ⟨rfl, hb2⟩)
        | (go_at_call 170; refine (negative_any _ _ _ _ _ _ _ hwh).mono ?_; rintro e w1 ⟨m1, a1, l1, p1, d1, rfl, hw1, hb1, hl1⟩; have R := v3.later hb1 v3.lt; have r0 := R.c0; have r1 := R.c1; have f2 := R.f0; have f3 := R.f1; have u0 := (R.put (.bool m1) (.slice a1 l1 p1)).c0; have u1 := (R.put (.bool m1) (.slice a1 l1 p1)).c1; have PW := hidden (hw1.store2 R (fun _ h => by cases h) (fun _ h => by cases h) (.bool m1) (.slice a1 l1 p1)); have PB := hidden (((hbel.trans (hb1.mono hbel.size)).setCell (p := ⟨w.heap.size, 0, none⟩) (Nat.le_refl _) (.bool m1)).setCell (p := ⟨w.heap.size, 1, none⟩) (Nat.le_refl _) (.slice a1 l1 p1))))
      all_goals exact bodyPost_ret (v := .tuple #[.int .i64 (fitV (-x)), .bool (fitB (-x))]) (by simp [results, Tryz.results146, go_sem]) rfl ⟨fitV (-x), fitB (-x), rfl, HFIN.out (-x) (by rw [HXX.out]; rfl), PB.out.trans (hb2.mono PB.out.size)⟩
theorem num_none {neg : Bool} {ds : List UInt8} (h : oneB neg ds = false) : numO neg ds = none := by
  unfold numO
  rw [h]; rfl
theorem one_bad {neg : Bool} {ds : List UInt8} (h48 : by8 ds 0 = 48) (h1 : 1 < ds.length) : oneB neg ds = false := by
  unfold oneB
  rw [decide_eq_true h48, decide_eq_false (by omega : ¬ (ds.length = 1))]; rfl
set_option maxRecDepth 100000 in
set_option maxHeartbeats 2000000 in
theorem rnumber_plain3 (ds : List UInt8) (w : World) (_hd : allD ds) (h0 : 0 < ds.length) (hB : ds.length ≤ 1048576) (h48 : by8 ds 0 = 48) (h1 : 1 < ds.length) : Calls Tryz.prog 146 #[.string (str (ds))] w (RNum false ds w) := by
  have HN : Hid (numO false ds = none) := num_none (one_bad h48 h1)
  have e1 := str_size (ds)
  have e2 := str_size ds
  have e3 := str_list ds
  have e4 : (ByteArray.mk #[48]).toList = ([48] : List UInt8) := str_list [48]
  have hl0 : (0 : Int) < (ds.length : Int) := by omega
  have g0 := str_get ds 0 (by rw [e2]; exact h0)
  have d1 : (1 : Int) < (ds.length : Int) := by omega
  have d1' : decide ((1 : Int) < (ds.length : Int)) = true := decide_eq_true d1
  have x48 : decide (by8 ds 0 = 48) = true := decide_eq_true h48
  clear h1
  have hdg : 48 ≤ by8 ds 0 := by
    have h1 := _hd _ (List.getElem_mem h0)
    unfold by8
    rw [List.getD_eq_getElem?_getD, List.getElem?_eq_getElem h0]
    show (48 : Int) ≤ ((ds[0].toNat : Int))
    omega
  have x45 : ¬ (by8 ds 0 = 45) := by omega
  have x45' : decide (by8 ds 0 = 45) = false := decide_eq_false x45
  clear _hd
  go_enter Tryz.func146, Tryz.ntmps146
  go_wp2
  exact bodyPost_ret (v := .tuple #[.int .i64 0, .bool false]) (by simp [results, Tryz.results146, go_sem]) rfl ⟨0, false, rfl, Or.inr ⟨HN.out, rfl⟩, Below.refl _ _⟩
set_option maxRecDepth 100000 in
set_option maxHeartbeats 2000000 in
theorem rnumber_plain4 (ds : List UInt8) (w : World) (_hd : allD ds) (h0 : 0 < ds.length) (hB : ds.length ≤ 1048576) (h48 : by8 ds 0 ≠ 48) (h1 : 19 < ds.length) : Calls Tryz.prog 146 #[.string (str (ds))] w (RNum false ds w) := by
  have HN : Hid (numO false ds = none) := num_long _hd h1
  have e1 := str_size (ds)
  have e2 := str_size ds
  have e3 := str_list ds
  have e4 : (ByteArray.mk #[48]).toList = ([48] : List UInt8) := str_list [48]
  have hl0 : (0 : Int) < (ds.length : Int) := by omega
  have g0 := str_get ds 0 (by rw [e2]; exact h0)
  have d1 : (1 : Int) < (ds.length : Int) := by omega
  have d1' : decide ((1 : Int) < (ds.length : Int)) = true := decide_eq_true d1
  have xb : (by8 ds 0 == 48) = false := by simpa using h48
  have x48 : decide (by8 ds 0 = 48) = false := decide_eq_false h48
  have c19 : (19 : Int) < (ds.length : Int) := by omega
  have c19' : decide ((19 : Int) < (ds.length : Int)) = true := decide_eq_true c19
  have xne : (ds == [48]) = false := by
    have : ¬ (ds = [48]) := by intro e; subst e; exact h48 rfl
    simpa using this
  clear h1
  have hdg : 48 ≤ by8 ds 0 := by
    have h1 := _hd _ (List.getElem_mem h0)
    unfold by8
    rw [List.getD_eq_getElem?_getD, List.getElem?_eq_getElem h0]
    show (48 : Int) ≤ ((ds[0].toNat : Int))
    omega
  have x45 : ¬ (by8 ds 0 = 45) := by omega
  have x45' : decide (by8 ds 0 = 45) = false := decide_eq_false x45
  clear _hd
  go_enter Tryz.func146, Tryz.ntmps146
  go_wp2
  exact bodyPost_ret (v := .tuple #[.int .i64 0, .bool false]) (by simp [results, Tryz.results146, go_sem]) rfl ⟨0, false, rfl, Or.inr ⟨HN.out, rfl⟩, Below.refl _ _⟩
set_option maxRecDepth 100000 in
set_option maxHeartbeats 2000000 in
theorem rnumber_minus3 (ds : List UInt8) (w : World) (_hd : allD ds) (h0 : 0 < ds.length) (hB : ds.length ≤ 1048576) (h48 : by8 ds 0 = 48) (h1 : 1 < ds.length) : Calls Tryz.prog 146 #[.string (str (45 :: ds))] w (RNum true ds w) := by
  have HN : Hid (numO true ds = none) := num_none (one_bad h48 h1)
  have e1 := str_size (45 :: ds)
  have e2 := str_size ds
  have e3 := str_list ds
  have e4 : (ByteArray.mk #[48]).toList = ([48] : List UInt8) := str_list [48]
  have hl0 : (0 : Int) < (ds.length : Int) := by omega
  have g0 := str_get ds 0 (by rw [e2]; exact h0)
  have d1 : (1 : Int) < (ds.length : Int) := by omega
  have d1' : decide ((1 : Int) < (ds.length : Int)) = true := decide_eq_true d1
  have x48 : decide (by8 ds 0 = 48) = true := decide_eq_true h48
  clear h1
  have s0 := str_get (45 :: ds) 0 (by rw [e1]; simp)
  have s1 : by8 (45 :: ds) 0 = 45 := rfl
  rw [s1] at s0
  have e1' : (str (45 :: ds)).size = ds.length + 1 := by rw [e1]; rfl
  have HX : (str (45 :: ds)).extract 1 (ds.length + 1) = str ds := by
    have := str_cut (45 :: ds) 1 ds.length
    rw [Nat.add_comm 1] at this
    rw [this]
    simp
  clear _hd
  go_enter Tryz.func146, Tryz.ntmps146
  go_wp2
  exact bodyPost_ret (v := .tuple #[.int .i64 0, .bool false]) (by simp [results, Tryz.results146, go_sem]) rfl ⟨0, false, rfl, Or.inr ⟨HN.out, rfl⟩, Below.refl _ _⟩
set_option maxRecDepth 100000 in
set_option maxHeartbeats 2000000 in
theorem rnumber_minus4 (ds : List UInt8) (w : World) (_hd : allD ds) (h0 : 0 < ds.length) (hB : ds.length ≤ 1048576) (h48 : by8 ds 0 ≠ 48) (h1 : 19 < ds.length) : Calls Tryz.prog 146 #[.string (str (45 :: ds))] w (RNum true ds w) := by
  have HN : Hid (numO true ds = none) := num_long _hd h1
  have e1 := str_size (45 :: ds)
  have e2 := str_size ds
  have e3 := str_list ds
  have e4 : (ByteArray.mk #[48]).toList = ([48] : List UInt8) := str_list [48]
  have hl0 : (0 : Int) < (ds.length : Int) := by omega
  have g0 := str_get ds 0 (by rw [e2]; exact h0)
  have d1 : (1 : Int) < (ds.length : Int) := by omega
  have d1' : decide ((1 : Int) < (ds.length : Int)) = true := decide_eq_true d1
  have xb : (by8 ds 0 == 48) = false := by simpa using h48
  have x48 : decide (by8 ds 0 = 48) = false := decide_eq_false h48
  have c19 : (19 : Int) < (ds.length : Int) := by omega
  have c19' : decide ((19 : Int) < (ds.length : Int)) = true := decide_eq_true c19
  have xne : (ds == [48]) = false := by
    have : ¬ (ds = [48]) := by intro e; subst e; exact h48 rfl
    simpa using this
  clear h1
  have s0 := str_get (45 :: ds) 0 (by rw [e1]; simp)
  have s1 : by8 (45 :: ds) 0 = 45 := rfl
  rw [s1] at s0
  have e1' : (str (45 :: ds)).size = ds.length + 1 := by rw [e1]; rfl
  have HX : (str (45 :: ds)).extract 1 (ds.length + 1) = str ds := by
    have := str_cut (45 :: ds) 1 ds.length
    rw [Nat.add_comm 1] at this
    rw [this]
    simp
  clear _hd
  go_enter Tryz.func146, Tryz.ntmps146
  go_wp2
  exact bodyPost_ret (v := .tuple #[.int .i64 0, .bool false]) (by simp [results, Tryz.results146, go_sem]) rfl ⟨0, false, rfl, Or.inr ⟨HN.out, rfl⟩, Below.refl _ _⟩
set_option maxRecDepth 100000 in
set_option maxHeartbeats 2000000 in
theorem rnumber_minus5 (ds : List UInt8) (w : World) (_hd : allD ds) (h0 : 0 < ds.length) (hB : ds.length ≤ 1048576) (hz : ds = [48]) (h1 : ds.length = 1) : Calls Tryz.prog 146 #[.string (str (45 :: ds))] w (RNum true ds w) := by
  have HN : Hid (numO true ds = none) := num_none (by rw [hz]; rfl)
  have e1 := str_size (45 :: ds)
  have e2 := str_size ds
  have e3 := str_list ds
  have e4 : (ByteArray.mk #[48]).toList = ([48] : List UInt8) := str_list [48]
  have hl0 : (0 : Int) < (ds.length : Int) := by omega
  have g0 := str_get ds 0 (by rw [e2]; exact h0)
  have d1 : ¬ ((1 : Int) < (ds.length : Int)) := by omega
  have d1' : decide ((1 : Int) < (ds.length : Int)) = false := decide_eq_false d1
  have xeq : (ds == [48]) = true := by rw [hz]; rfl
  have x48 : decide (by8 ds 0 = 48) = true := decide_eq_true (by rw [hz]; rfl)
  clear h1 hz
  have s0 := str_get (45 :: ds) 0 (by rw [e1]; simp)
  have s1 : by8 (45 :: ds) 0 = 45 := rfl
  rw [s1] at s0
  have e1' : (str (45 :: ds)).size = ds.length + 1 := by rw [e1]; rfl
  have HX : (str (45 :: ds)).extract 1 (ds.length + 1) = str ds := by
    have := str_cut (45 :: ds) 1 ds.length
    rw [Nat.add_comm 1] at this
    rw [this]
    simp
  clear _hd
  go_enter Tryz.func146, Tryz.ntmps146
  go_wp2
  exact bodyPost_ret (v := .tuple #[.int .i64 0, .bool false]) (by simp [results, Tryz.results146, go_sem]) rfl ⟨0, false, rfl, Or.inr ⟨HN.out, rfl⟩, Below.refl _ _⟩
/-- The document's number, whatever the digits. -/
def sgnS (neg : Bool) (ds : List UInt8) : List UInt8 := if neg then 45 :: ds else ds
theorem rnumber_any (neg : Bool) (ds : List UInt8) (w : World) (hd : allD ds) (h0 : 0 < ds.length) (hB : ds.length ≤ 1048576) : Calls Tryz.prog 146 #[.string (str (sgnS neg ds))] w (RNum neg ds w) := by
  cases neg
  · show Calls Tryz.prog 146 #[.string (str ds)] w (RNum false ds w)
    by_cases h1 : ds.length = 1
    · exact rnumber_plain1 ds w hd (by omega) h0 (by unfold oneB; rw [decide_eq_true h1]; cases decide (by8 ds 0 = 48) <;> rfl) h1
    · by_cases h48 : by8 ds 0 = 48
      · exact rnumber_plain3 ds w hd h0 hB h48 (by omega)
      · by_cases hl : ds.length ≤ 19
        · exact rnumber_plain2 ds w hd hl h0 (by unfold oneB; rw [decide_eq_false h48]; rfl) h48 (by omega)
        · exact rnumber_plain4 ds w hd h0 hB h48 (by omega)
  · show Calls Tryz.prog 146 #[.string (str (45 :: ds))] w (RNum true ds w)
    by_cases h48 : by8 ds 0 = 48
    · by_cases h1 : ds.length = 1
      · refine rnumber_minus5 ds w hd h0 hB ?_ h1
        match ds, h1, h48 with
        | [c], _, h =>
          have hc : (c.toNat : Int) = 48 := h
          have : c = 48 := UInt8.toNat_inj.mp (by show c.toNat = 48; omega)
          rw [this]
      · exact rnumber_minus3 ds w hd h0 hB h48 (by omega)
    · by_cases hl : ds.length ≤ 19
      · by_cases h1 : ds.length = 1
        · exact rnumber_minus1 ds w hd hl h0 (by unfold oneB; rw [decide_eq_false h48]; rfl) h48 h1
        · exact rnumber_minus2 ds w hd hl h0 (by unfold oneB; rw [decide_eq_false h48]; rfl) h48 (by omega)
      · exact rnumber_minus4 ds w hd h0 hB h48 (by omega)
/-- How the document's token ends. -/
def RTok (p : Nat) (o : One) (w : World) (e : Ending) (w' : World) : Prop :=
  e = .returned (.tuple #[.agg #[.int .u8 o.tok.sort, .string (str o.tok.text), .int .i64 o.tok.num, .int .i64 (if o.err = 0 then (p : Int) else 0)], .int .i64 (if o.err = 0 then ((p + o.n : Nat) : Int) else 0), .int .i64 o.err]) ∧ Below w.heap.size w w'
theorem below_set4 {w w1 : World} {x y z u : Value} (h : Below w.heap.size w w1) : Below w.heap.size w ((((w1.setCell ⟨w.heap.size, 0, none⟩ x).setCell ⟨w.heap.size, 1, none⟩ y).setCell ⟨w.heap.size, 2, none⟩ z).setCell ⟨w.heap.size, 3, none⟩ u) :=
  (((h.setCell (p := ⟨w.heap.size, 0, none⟩) (Nat.le_refl _) x).setCell (p := ⟨w.heap.size, 1, none⟩) (Nat.le_refl _) y).setCell (p := ⟨w.heap.size, 2, none⟩) (Nat.le_refl _) z).setCell (p := ⟨w.heap.size, 3, none⟩) (Nat.le_refl _) u
theorem by8_from (l : List UInt8) (p i : Nat) : by8 (l.drop p) i = by8 l (p + i) := by
  unfold by8
  rw [List.getD_eq_getElem?_getD, List.getD_eq_getElem?_getD, List.getElem?_drop]
theorem row_goes {f : Int → Bool} {l : List UInt8} {p q N : Nat} (hN : rowN f (l.drop p) = N) (hpq : p ≤ q) (h : q ≤ p + N) (hq : q < l.length) (hw : f (by8 l q) = true) : q + 1 ≤ p + N := by
  have := row_next_k (p := f) (l := l.drop p) (i := q - p) (by omega) (by rw [List.length_drop]; omega) (by rw [by8_from]; rw [show p + (q - p) = q by omega]; exact hw)
  omega
theorem row_ends {f : Int → Bool} {l : List UInt8} {p q N : Nat} (hN : rowN f (l.drop p) = N) (hpq : p ≤ q) (h : q ≤ p + N) (hw : f (by8 l q) = false) : q = p + N := by
  rcases Nat.lt_or_ge q (p + N) with h1 | h1
  · have := rowN_in f (l.drop p) (q - p) (by omega)
    rw [by8_from, show p + (q - p) = q by omega, hw] at this
    cases this
  · omega
set_option maxRecDepth 100000 in
set_option maxHeartbeats 2000000 in
theorem rtoken_wordA (l : List UInt8) (p N : Nat) (w : World) (hp : p < l.length) (hl : l.length ≤ 1048576) (x0 : Int) (hx0 : by8 l p = x0) (hlet : letB x0 = true) (hN : rowN wordB (l.drop p) = N) (hN1 : 0 < N) (hn : p + 1 < l.length) : Calls Tryz.prog 94 #[.string (str l), .int .i64 (p : Int)] w (RTok p (wordO (l.drop p)) w) := by
  have e1 := str_size l
  have g0 := str_get l p (by rw [e1]; exact hp)
  rw [hx0] at g0
  have hpI : (p : Int) < (l.length : Int) := by omega
  have hlI : (l.length : Int) ≤ 1048576 := by omega
  have HL := hidden (rletter_any_k x0)
  rw [hlet] at HL
  have HNL : Hid (p + N ≤ l.length) := by have := rowN_le wordB (l.drop p); rw [hN, List.length_drop] at this; show _ ≤ _; omega
  have HGO := hidden (fun q => row_goes (f := wordB) (l := l) (p := p) (q := q) hN)
  have HEN := hidden (fun q => row_ends (f := wordB) (l := l) (p := p) (q := q) hN)
  have HCUT := hidden (str_cut l p N)
  have EO : Hid (wordO (l.drop p) = if 16 < N then ⟨noTok, 42, 0⟩ else ⟨⟨1, (l.drop p).take N, 0, 0⟩, 0, N⟩) := by unfold wordO; rw [hN]; rfl
  have HBX := hidden (box_new w (.int .u8 0) (.string ⟨#[]⟩) (.int .i64 0) (.int .i64 0))
  have HB0 : Hid (Below w.heap.size w (w.alloc (.cells #[.int .u8 0, .string ⟨#[]⟩, .int .i64 0, .int .i64 0] 96))) := (Below.refl _ _).alloc (Nat.le_refl _) _
  have n1 : (p : Int) + 1 < (l.length : Int) := by omega
  have g1 := str_get l (p + 1) (by rw [e1]; exact hn)
  clear hN hx0 hlet
  go_enter Tryz.func94, Tryz.ntmps94
  go_wp2_with (go_at_call 117; (with_reducible refine (HL.out _).mono ?_); rintro e w' ⟨rfl, rfl⟩)
  go_loopg [9] (l.length - (p + 1)) (fun gk v wr => ∃ q : Nat, p < q ∧ q ≤ l.length ∧ gk = l.length - q ∧ v = .int .i64 (q : Int) ∧ Below w.heap.size w wr ∧ Box w.heap.size wr ∧ q ≤ p + N)
  case atStart => exact ⟨p + 1, Nat.lt_succ_self _, hp, rfl, by go_num, HB0.out, HBX.out, by omega⟩
  case round =>
    obtain ⟨q, hpq, hql, rfl, rfl, hb, hbx, hqN⟩ := hrel
    have HB := hidden hb
    clear hb HB0 HBX HL
    by_cases hgo : q < l.length ∧ wordB (by8 l q) = true
    · obtain ⟨hlt, hw⟩ := hgo
      have j1 : (q : Int) < (l.length : Int) := by omega
      have gi := str_get l q (by rw [e1]; exact hlt)
      have HI := hidden (rinside_any_k (by8 l q))
      have HN : Hid (q + 1 ≤ p + N) := HGO.out q (by omega) hqN hlt hw
      have HX := hidden hbx
      rw [hw] at HI
      clear hw hbx
      go_wp2_with (go_at_call 118; (with_reducible refine (HI.out _).mono ?_); rintro e w' ⟨rfl, rfl⟩)
      go_roundg (l.length - (q + 1))
      case measure => omega
      case rel => exact ⟨q + 1, by omega, by omega, rfl, by go_num, HB.out, HX.out, HN.out⟩
    · have hqe : q = p + N := by
        by_cases hlt : q < l.length
        · exact HEN.out q (by omega) hqN (by cases h : wordB (by8 l q) with | true => exact absurd ⟨hlt, h⟩ hgo | false => rfl)
        · have := HNL.out; omega
      have hcut := HCUT.out
      rw [← hqe] at hcut
      obtain ⟨x1, y1, z5, u1, c0, c1, c2, c3, f0, f1, f2, f3⟩ := hbx.parts
      have HQ := hidden hqe
      have EO' := EO.out
      clear EO
      have i0 : (0 : Int) ≤ (p : Int) := by omega
      have i1 : (p : Int) ≤ (q : Int) := by omega
      have i2 : (q : Int) ≤ (l.length : Int) := by omega
      have wq : IntKind.i64.wrap ((q : Int) - (p : Int)) = (q : Int) - (p : Int) := by rw [IntKind.wrap_i64]; omega
      clear hqe
      by_cases h16 : 16 < N
      · have m16 : (16 : Int) < (q : Int) - (p : Int) := by have := HQ.out; omega
        rw [if_pos h16] at EO'
        have HE := hidden EO'
        clear EO'
        by_cases hlt : q < l.length
        · have j1 : (q : Int) < (l.length : Int) := by omega
          have gi := str_get l q (by rw [e1]; exact hlt)
          have HI := hidden (rinside_any_k (by8 l q))
          have hw' : wordB (by8 l q) = false := by cases h : wordB (by8 l q) with | true => exact absurd ⟨hlt, h⟩ hgo | false => rfl
          rw [hw'] at HI
          clear hw' hgo
          go_wp2_with (go_at_call 118; (with_reducible refine (HI.out _).mono ?_); rintro e w' ⟨rfl, rfl⟩)
          exact bodyPost_ret (v := .tuple #[.agg #[.int .u8 0, .string (str []), .int .i64 0, .int .i64 0], .int .i64 0, .int .i64 42]) (by simp [results, Tryz.results94, go_sem, c0, c1, c2, c3, str]) rfl ⟨by rw [HE.out]; rfl, below_set4 HB.out⟩
        · have j1 : ¬ ((q : Int) < (l.length : Int)) := by omega
          clear hgo
          go_wp2
          exact bodyPost_ret (v := .tuple #[.agg #[.int .u8 0, .string (str []), .int .i64 0, .int .i64 0], .int .i64 0, .int .i64 42]) (by simp [results, Tryz.results94, go_sem, c0, c1, c2, c3, str]) rfl ⟨by rw [HE.out]; rfl, below_set4 HB.out⟩
      · have m16 : ¬ ((16 : Int) < (q : Int) - (p : Int)) := by have := HQ.out; omega
        rw [if_neg h16] at EO'
        have HE := hidden EO'
        clear EO'
        by_cases hlt : q < l.length
        · have j1 : (q : Int) < (l.length : Int) := by omega
          have gi := str_get l q (by rw [e1]; exact hlt)
          have HI := hidden (rinside_any_k (by8 l q))
          have hw' : wordB (by8 l q) = false := by cases h : wordB (by8 l q) with | true => exact absurd ⟨hlt, h⟩ hgo | false => rfl
          rw [hw'] at HI
          clear hw' hgo
          go_wp2_with (go_at_call 118; (with_reducible refine (HI.out _).mono ?_); rintro e w' ⟨rfl, rfl⟩)
          all_goals exact bodyPost_ret (v := .tuple #[.agg #[.int .u8 1, .string (str ((l.drop p).take N)), .int .i64 0, .int .i64 (p : Int)], .int .i64 (q : Int), .int .i64 0]) (by simp [results, Tryz.results94, go_sem, c0, c1, c2, c3, str]) rfl ⟨by rw [HE.out, HQ.out]; rfl, below_set4 HB.out⟩
        · have j1 : ¬ ((q : Int) < (l.length : Int)) := by omega
          clear hgo
          go_wp2
          all_goals exact bodyPost_ret (v := .tuple #[.agg #[.int .u8 1, .string (str ((l.drop p).take N)), .int .i64 0, .int .i64 (p : Int)], .int .i64 (q : Int), .int .i64 0]) (by simp [results, Tryz.results94, go_sem, c0, c1, c2, c3, str]) rfl ⟨by rw [HE.out, HQ.out]; rfl, below_set4 HB.out⟩
set_option maxRecDepth 100000 in
set_option maxHeartbeats 2000000 in
theorem rtoken_wordB (l : List UInt8) (p N : Nat) (w : World) (hp : p < l.length) (hl : l.length ≤ 1048576) (x0 : Int) (hx0 : by8 l p = x0) (hlet : letB x0 = true) (hN : rowN wordB (l.drop p) = N) (hN1 : 0 < N) (hn : ¬ (p + 1 < l.length)) : Calls Tryz.prog 94 #[.string (str l), .int .i64 (p : Int)] w (RTok p (wordO (l.drop p)) w) := by
  have e1 := str_size l
  have g0 := str_get l p (by rw [e1]; exact hp)
  rw [hx0] at g0
  have hpI : (p : Int) < (l.length : Int) := by omega
  have hlI : (l.length : Int) ≤ 1048576 := by omega
  have HL := hidden (rletter_any_k x0)
  rw [hlet] at HL
  have HNL : Hid (p + N ≤ l.length) := by have := rowN_le wordB (l.drop p); rw [hN, List.length_drop] at this; show _ ≤ _; omega
  have HGO := hidden (fun q => row_goes (f := wordB) (l := l) (p := p) (q := q) hN)
  have HEN := hidden (fun q => row_ends (f := wordB) (l := l) (p := p) (q := q) hN)
  have HCUT := hidden (str_cut l p N)
  have EO : Hid (wordO (l.drop p) = if 16 < N then ⟨noTok, 42, 0⟩ else ⟨⟨1, (l.drop p).take N, 0, 0⟩, 0, N⟩) := by unfold wordO; rw [hN]; rfl
  have HBX := hidden (box_new w (.int .u8 0) (.string ⟨#[]⟩) (.int .i64 0) (.int .i64 0))
  have HB0 : Hid (Below w.heap.size w (w.alloc (.cells #[.int .u8 0, .string ⟨#[]⟩, .int .i64 0, .int .i64 0] 96))) := (Below.refl _ _).alloc (Nat.le_refl _) _
  have n1 : ¬ ((p : Int) + 1 < (l.length : Int)) := by omega
  clear hN hx0 hlet
  go_enter Tryz.func94, Tryz.ntmps94
  go_wp2_with (go_at_call 117; (with_reducible refine (HL.out _).mono ?_); rintro e w' ⟨rfl, rfl⟩)
  go_loopg [9] (l.length - (p + 1)) (fun gk v wr => ∃ q : Nat, p < q ∧ q ≤ l.length ∧ gk = l.length - q ∧ v = .int .i64 (q : Int) ∧ Below w.heap.size w wr ∧ Box w.heap.size wr ∧ q ≤ p + N)
  case atStart => exact ⟨p + 1, Nat.lt_succ_self _, hp, rfl, by go_num, HB0.out, HBX.out, by omega⟩
  case round =>
    obtain ⟨q, hpq, hql, rfl, rfl, hb, hbx, hqN⟩ := hrel
    have HB := hidden hb
    clear hb HB0 HBX HL
    by_cases hgo : q < l.length ∧ wordB (by8 l q) = true
    · obtain ⟨hlt, hw⟩ := hgo
      have j1 : (q : Int) < (l.length : Int) := by omega
      have gi := str_get l q (by rw [e1]; exact hlt)
      have HI := hidden (rinside_any_k (by8 l q))
      have HN : Hid (q + 1 ≤ p + N) := HGO.out q (by omega) hqN hlt hw
      have HX := hidden hbx
      rw [hw] at HI
      clear hw hbx
      go_wp2_with (go_at_call 118; (with_reducible refine (HI.out _).mono ?_); rintro e w' ⟨rfl, rfl⟩)
      go_roundg (l.length - (q + 1))
      case measure => omega
      case rel => exact ⟨q + 1, by omega, by omega, rfl, by go_num, HB.out, HX.out, HN.out⟩
    · have hqe : q = p + N := by
        by_cases hlt : q < l.length
        · exact HEN.out q (by omega) hqN (by cases h : wordB (by8 l q) with | true => exact absurd ⟨hlt, h⟩ hgo | false => rfl)
        · have := HNL.out; omega
      have hcut := HCUT.out
      rw [← hqe] at hcut
      obtain ⟨x1, y1, z5, u1, c0, c1, c2, c3, f0, f1, f2, f3⟩ := hbx.parts
      have HQ := hidden hqe
      have EO' := EO.out
      clear EO
      have i0 : (0 : Int) ≤ (p : Int) := by omega
      have i1 : (p : Int) ≤ (q : Int) := by omega
      have i2 : (q : Int) ≤ (l.length : Int) := by omega
      have wq : IntKind.i64.wrap ((q : Int) - (p : Int)) = (q : Int) - (p : Int) := by rw [IntKind.wrap_i64]; omega
      have h16 : ¬ (16 < N) := by have := HNL.out; omega
      have m16 : ¬ ((16 : Int) < (q : Int) - (p : Int)) := by have := HQ.out; omega
      rw [if_neg h16] at EO'
      have HE := hidden EO'
      have j1 : ¬ ((q : Int) < (l.length : Int)) := by omega
      clear EO' hgo hqe
      go_wp2
      all_goals exact bodyPost_ret (v := .tuple #[.agg #[.int .u8 1, .string (str ((l.drop p).take N)), .int .i64 0, .int .i64 (p : Int)], .int .i64 (q : Int), .int .i64 0]) (by simp [results, Tryz.results94, go_sem, c0, c1, c2, c3, str]) rfl ⟨by rw [HE.out, HQ.out]; rfl, below_set4 HB.out⟩
theorem by8_none {l : List UInt8} {n : Nat} (h : l.length ≤ n) : by8 l n = 0 := by
  unfold by8
  rw [List.getD_eq_getElem?_getD, List.getElem?_eq_none h]
  rfl
set_option maxRecDepth 100000 in
set_option maxHeartbeats 2000000 in
theorem rtoken_arrow (l : List UInt8) (p : Nat) (w : World) (hp : p < l.length) (hl : l.length ≤ 1048576) (x0 x1 : Int) (hx0 : by8 l p = x0) (hx1 : by8 l (p + 1) = x1) (hn : p + 1 < l.length) (hlet : letB x0 = false) (h45 : x0 = 45) (h62 : x1 = 62) : Calls Tryz.prog 94 #[.string (str l), .int .i64 (p : Int)] w (RTok p (markO (l.drop p) 2) w) := by
  have e1 := str_size l
  have g0 := str_get l p (by rw [e1]; exact hp)
  rw [hx0] at g0
  have hpI : (p : Int) < (l.length : Int) := by omega
  have hlI : (l.length : Int) ≤ 1048576 := by omega
  have HL := hidden (rletter_any_k x0)
  rw [hlet] at HL
  have HD0 := hidden (rdigit_any_k x0)
  have HD1 := hidden (rdigit_any_k x1)
  have n1 : (p : Int) + 1 < (l.length : Int) := by omega
  have g1 := str_get l (p + 1) (by rw [e1]; exact hn)
  rw [hx1] at g1
  subst h45
  subst h62
  rw [show digB 45 = false from rfl] at HD0
  rw [show digB 62 = false from rfl] at HD1
  have HTX : Hid ((l.drop p).take 2 = [45, 62]) := by
    have a0 : by8 (l.drop p) 0 = 45 := by rw [by8_from]; exact hx0
    have a1 : by8 (l.drop p) 1 = 62 := by rw [by8_from]; exact hx1
    match hd : l.drop p, a0, a1 with
    | [], a, _ => cases a
    | [c], _, b => cases b
    | c :: d :: r, a, b =>
      have hc : (c.toNat : Int) = 45 := a
      have hd : (d.toNat : Int) = 62 := b
      have : c = 45 := UInt8.toNat_inj.mp (by show c.toNat = 45; omega)
      have : d = 62 := UInt8.toNat_inj.mp (by show d.toNat = 62; omega)
      subst_vars
      rfl
  clear hx0 hx1 hlet
  go_enter Tryz.func94, Tryz.ntmps94
  go_wp2_with (first
    | (go_at_call 117; (with_reducible refine (HL.out _).mono ?_); rintro e w' ⟨rfl, rfl⟩)
    | (go_at_call 145; (with_reducible refine (HD0.out _).mono ?_); rintro e w' ⟨rfl, rfl⟩)
    | (go_at_call 145; (with_reducible refine (HD1.out _).mono ?_); rintro e w' ⟨rfl, rfl⟩))
  all_goals exact bodyPost_ret (v := .tuple #[.agg #[.int .u8 3, .string (str [45, 62]), .int .i64 0, .int .i64 (p : Int)], .int .i64 ((p : Int) + 2), .int .i64 0]) (by simp [results, Tryz.results94, go_sem, str]) rfl ⟨by unfold markO; rw [HTX.out]; rfl, (Below.refl _ _).alloc (Nat.le_refl _) _⟩
set_option maxRecDepth 100000 in
set_option maxHeartbeats 2000000 in
theorem rtoken_markA (l : List UInt8) (p : Nat) (w : World) (hp : p < l.length) (hl : l.length ≤ 1048576) (x0 x1 : Int) (hx0 : by8 l p = x0) (hx1 : by8 l (p + 1) = x1) (hn : p + 1 < l.length) (hlet : letB x0 = false) (hd0 : digB x0 = false) (h45 : x0 ≠ 45) (hm : markB x0 = true) : Calls Tryz.prog 94 #[.string (str l), .int .i64 (p : Int)] w (RTok p (markO (l.drop p) 1) w) := by
  have e1 := str_size l
  have g0 := str_get l p (by rw [e1]; exact hp)
  rw [hx0] at g0
  have hpI : (p : Int) < (l.length : Int) := by omega
  have hlI : (l.length : Int) ≤ 1048576 := by omega
  have HL := hidden (rletter_any_k x0)
  rw [hlet] at HL
  have HD0 := hidden (rdigit_any_k x0)
  have HD1 := hidden (rdigit_any_k x1)
  have n1 : (p : Int) + 1 < (l.length : Int) := by omega
  have g1 := str_get l (p + 1) (by rw [e1]; exact hn)
  rw [hx1] at g1
  rw [hd0] at HD0
  have x45 : decide (x0 = 45) = false := decide_eq_false h45
  have i0 : (0 : Int) ≤ (p : Int) := by omega
  have hcut := str_cut l p 1
  have iq : (p : Int) ≤ (p : Int) + 1 := by omega
  have iq2 : (p : Int) + 1 ≤ (l.length : Int) := by omega
  have hms : x0 = 123 ∨ x0 = 125 ∨ x0 = 61 ∨ x0 = 59 ∨ x0 = 46 := by
    unfold markB at hm
    simp only [Bool.or_eq_true, decide_eq_true_eq] at hm
    omega
  clear hx0 hx1 hlet hd0 hm
  rcases hms with rfl | rfl | rfl | rfl | rfl
  all_goals
    go_enter Tryz.func94, Tryz.ntmps94
    go_wp2_with (first
      | (go_at_call 117; (with_reducible refine (HL.out _).mono ?_); rintro e w' ⟨rfl, rfl⟩)
      | (go_at_call 145; (with_reducible refine (HD0.out _).mono ?_); rintro e w' ⟨rfl, rfl⟩)
      | (go_at_call 145; (with_reducible refine (HD1.out _).mono ?_); rintro e w' ⟨rfl, rfl⟩))
    all_goals exact bodyPost_ret (v := .tuple #[.agg #[.int .u8 3, .string (str ((l.drop p).take 1)), .int .i64 0, .int .i64 (p : Int)], .int .i64 ((p : Int) + 1), .int .i64 0]) (by simp [results, Tryz.results94, go_sem, str]) rfl ⟨rfl, (Below.refl _ _).alloc (Nat.le_refl _) _⟩
set_option maxRecDepth 100000 in
set_option maxHeartbeats 2000000 in
theorem rtoken_markB (l : List UInt8) (p : Nat) (w : World) (hp : p < l.length) (hl : l.length ≤ 1048576) (x0 x1 : Int) (hx0 : by8 l p = x0) (hx1 : by8 l (p + 1) = x1) (hn : ¬ (p + 1 < l.length)) (hlet : letB x0 = false) (hd0 : digB x0 = false) (h45 : x0 ≠ 45) (hm : markB x0 = true) : Calls Tryz.prog 94 #[.string (str l), .int .i64 (p : Int)] w (RTok p (markO (l.drop p) 1) w) := by
  have e1 := str_size l
  have g0 := str_get l p (by rw [e1]; exact hp)
  rw [hx0] at g0
  have hpI : (p : Int) < (l.length : Int) := by omega
  have hlI : (l.length : Int) ≤ 1048576 := by omega
  have HL := hidden (rletter_any_k x0)
  rw [hlet] at HL
  have HD0 := hidden (rdigit_any_k x0)
  have HD1 := hidden (rdigit_any_k x1)
  have n1 : ¬ ((p : Int) + 1 < (l.length : Int)) := by omega
  have hx1' : by8 l (p + 1) = 0 := by8_none (by omega)
  rw [hx1] at hx1'
  subst hx1'
  rw [hd0] at HD0
  have x45 : decide (x0 = 45) = false := decide_eq_false h45
  have i0 : (0 : Int) ≤ (p : Int) := by omega
  have hcut := str_cut l p 1
  have iq : (p : Int) ≤ (p : Int) + 1 := by omega
  have iq2 : (p : Int) + 1 ≤ (l.length : Int) := by omega
  have hms : x0 = 123 ∨ x0 = 125 ∨ x0 = 61 ∨ x0 = 59 ∨ x0 = 46 := by
    unfold markB at hm
    simp only [Bool.or_eq_true, decide_eq_true_eq] at hm
    omega
  clear hx0 hx1 hlet hd0 hm
  rcases hms with rfl | rfl | rfl | rfl | rfl
  all_goals
    go_enter Tryz.func94, Tryz.ntmps94
    go_wp2_with (first
      | (go_at_call 117; (with_reducible refine (HL.out _).mono ?_); rintro e w' ⟨rfl, rfl⟩)
      | (go_at_call 145; (with_reducible refine (HD0.out _).mono ?_); rintro e w' ⟨rfl, rfl⟩)
      | (go_at_call 145; (with_reducible refine (HD1.out _).mono ?_); rintro e w' ⟨rfl, rfl⟩))
    all_goals exact bodyPost_ret (v := .tuple #[.agg #[.int .u8 3, .string (str ((l.drop p).take 1)), .int .i64 0, .int .i64 (p : Int)], .int .i64 ((p : Int) + 1), .int .i64 0]) (by simp [results, Tryz.results94, go_sem, str]) rfl ⟨rfl, (Below.refl _ _).alloc (Nat.le_refl _) _⟩
set_option maxRecDepth 100000 in
set_option maxHeartbeats 2000000 in
theorem rtoken_wrongA (l : List UInt8) (p : Nat) (w : World) (hp : p < l.length) (hl : l.length ≤ 1048576) (x0 x1 : Int) (hx0 : by8 l p = x0) (hx1 : by8 l (p + 1) = x1) (hn : p + 1 < l.length) (hlet : letB x0 = false) (h45 : x0 = 45) (h62 : x1 ≠ 62) (hd1 : digB x1 = false) : Calls Tryz.prog 94 #[.string (str l), .int .i64 (p : Int)] w (RTok p ⟨noTok, 40, 0⟩ w) := by
  have e1 := str_size l
  have g0 := str_get l p (by rw [e1]; exact hp)
  rw [hx0] at g0
  have hpI : (p : Int) < (l.length : Int) := by omega
  have hlI : (l.length : Int) ≤ 1048576 := by omega
  have HL := hidden (rletter_any_k x0)
  rw [hlet] at HL
  have HD0 := hidden (rdigit_any_k x0)
  have HD1 := hidden (rdigit_any_k x1)
  have n1 : (p : Int) + 1 < (l.length : Int) := by omega
  have g1 := str_get l (p + 1) (by rw [e1]; exact hn)
  rw [hx1] at g1
  subst h45
  rw [show digB 45 = false from rfl] at HD0
  rw [hd1] at HD1
  have x62 : decide (x1 = 62) = false := decide_eq_false h62
  have xb : (x1 == 62) = false := by simpa using h62
  clear hx0 hx1 hlet
  go_enter Tryz.func94, Tryz.ntmps94
  go_wp2_with (first
    | (go_at_call 117; (with_reducible refine (HL.out _).mono ?_); rintro e w' ⟨rfl, rfl⟩)
    | (go_at_call 145; (with_reducible refine (HD0.out _).mono ?_); rintro e w' ⟨rfl, rfl⟩)
    | (go_at_call 145; (with_reducible refine (HD1.out _).mono ?_); rintro e w' ⟨rfl, rfl⟩))
  all_goals exact bodyPost_ret (v := .tuple #[.agg #[.int .u8 0, .string (str []), .int .i64 0, .int .i64 0], .int .i64 0, .int .i64 40]) (by simp [results, Tryz.results94, go_sem, str]) rfl ⟨rfl, (Below.refl _ _).alloc (Nat.le_refl _) _⟩
set_option maxRecDepth 100000 in
set_option maxHeartbeats 2000000 in
theorem rtoken_wrongB (l : List UInt8) (p : Nat) (w : World) (hp : p < l.length) (hl : l.length ≤ 1048576) (x0 x1 : Int) (hx0 : by8 l p = x0) (hx1 : by8 l (p + 1) = x1) (hn : ¬ (p + 1 < l.length)) (hlet : letB x0 = false) (h45 : x0 = 45) (h62 : x1 ≠ 62) (hd1 : digB x1 = false) : Calls Tryz.prog 94 #[.string (str l), .int .i64 (p : Int)] w (RTok p ⟨noTok, 40, 0⟩ w) := by
  have e1 := str_size l
  have g0 := str_get l p (by rw [e1]; exact hp)
  rw [hx0] at g0
  have hpI : (p : Int) < (l.length : Int) := by omega
  have hlI : (l.length : Int) ≤ 1048576 := by omega
  have HL := hidden (rletter_any_k x0)
  rw [hlet] at HL
  have HD0 := hidden (rdigit_any_k x0)
  have HD1 := hidden (rdigit_any_k x1)
  have n1 : ¬ ((p : Int) + 1 < (l.length : Int)) := by omega
  have hx1' : by8 l (p + 1) = 0 := by8_none (by omega)
  rw [hx1] at hx1'
  subst hx1'
  subst h45
  rw [show digB 45 = false from rfl] at HD0
  rw [hd1] at HD1
  clear hx0 hx1 hlet
  go_enter Tryz.func94, Tryz.ntmps94
  go_wp2_with (first
    | (go_at_call 117; (with_reducible refine (HL.out _).mono ?_); rintro e w' ⟨rfl, rfl⟩)
    | (go_at_call 145; (with_reducible refine (HD0.out _).mono ?_); rintro e w' ⟨rfl, rfl⟩)
    | (go_at_call 145; (with_reducible refine (HD1.out _).mono ?_); rintro e w' ⟨rfl, rfl⟩))
  all_goals exact bodyPost_ret (v := .tuple #[.agg #[.int .u8 0, .string (str []), .int .i64 0, .int .i64 0], .int .i64 0, .int .i64 40]) (by simp [results, Tryz.results94, go_sem, str]) rfl ⟨rfl, (Below.refl _ _).alloc (Nat.le_refl _) _⟩
set_option maxRecDepth 100000 in
set_option maxHeartbeats 2000000 in
theorem rtoken_wrongC (l : List UInt8) (p : Nat) (w : World) (hp : p < l.length) (hl : l.length ≤ 1048576) (x0 x1 : Int) (hx0 : by8 l p = x0) (hx1 : by8 l (p + 1) = x1) (hn : p + 1 < l.length) (hlet : letB x0 = false) (hd0 : digB x0 = false) (h45 : x0 ≠ 45) (hm : markB x0 = false) : Calls Tryz.prog 94 #[.string (str l), .int .i64 (p : Int)] w (RTok p ⟨noTok, 40, 0⟩ w) := by
  have e1 := str_size l
  have g0 := str_get l p (by rw [e1]; exact hp)
  rw [hx0] at g0
  have hpI : (p : Int) < (l.length : Int) := by omega
  have hlI : (l.length : Int) ≤ 1048576 := by omega
  have HL := hidden (rletter_any_k x0)
  rw [hlet] at HL
  have HD0 := hidden (rdigit_any_k x0)
  have HD1 := hidden (rdigit_any_k x1)
  have n1 : (p : Int) + 1 < (l.length : Int) := by omega
  have g1 := str_get l (p + 1) (by rw [e1]; exact hn)
  rw [hx1] at g1
  rw [hd0] at HD0
  have x45 : decide (x0 = 45) = false := decide_eq_false h45
  have xb : (x0 == 45) = false := by simpa using h45
  have hms : x0 ≠ 123 ∧ x0 ≠ 125 ∧ x0 ≠ 61 ∧ x0 ≠ 59 ∧ x0 ≠ 46 := by
    refine ⟨?_, ?_, ?_, ?_, ?_⟩ <;> (intro e; subst e; cases hm)
  obtain ⟨m1, m2, m3, m4, m5⟩ := hms
  have k1 : (x0 == 123) = false := by simpa using m1
  have k2 : (x0 == 125) = false := by simpa using m2
  have k3 : (x0 == 61) = false := by simpa using m3
  have k4 : (x0 == 59) = false := by simpa using m4
  have k5 : (x0 == 46) = false := by simpa using m5
  clear hx0 hx1 hlet
  go_enter Tryz.func94, Tryz.ntmps94
  go_wp2_with (first
    | (go_at_call 117; (with_reducible refine (HL.out _).mono ?_); rintro e w' ⟨rfl, rfl⟩)
    | (go_at_call 145; (with_reducible refine (HD0.out _).mono ?_); rintro e w' ⟨rfl, rfl⟩)
    | (go_at_call 145; (with_reducible refine (HD1.out _).mono ?_); rintro e w' ⟨rfl, rfl⟩))
  all_goals exact bodyPost_ret (v := .tuple #[.agg #[.int .u8 0, .string (str []), .int .i64 0, .int .i64 0], .int .i64 0, .int .i64 40]) (by simp [results, Tryz.results94, go_sem, str]) rfl ⟨rfl, (Below.refl _ _).alloc (Nat.le_refl _) _⟩
set_option maxRecDepth 100000 in
set_option maxHeartbeats 2000000 in
theorem rtoken_wrongD (l : List UInt8) (p : Nat) (w : World) (hp : p < l.length) (hl : l.length ≤ 1048576) (x0 x1 : Int) (hx0 : by8 l p = x0) (hx1 : by8 l (p + 1) = x1) (hn : ¬ (p + 1 < l.length)) (hlet : letB x0 = false) (hd0 : digB x0 = false) (h45 : x0 ≠ 45) (hm : markB x0 = false) : Calls Tryz.prog 94 #[.string (str l), .int .i64 (p : Int)] w (RTok p ⟨noTok, 40, 0⟩ w) := by
  have e1 := str_size l
  have g0 := str_get l p (by rw [e1]; exact hp)
  rw [hx0] at g0
  have hpI : (p : Int) < (l.length : Int) := by omega
  have hlI : (l.length : Int) ≤ 1048576 := by omega
  have HL := hidden (rletter_any_k x0)
  rw [hlet] at HL
  have HD0 := hidden (rdigit_any_k x0)
  have HD1 := hidden (rdigit_any_k x1)
  have n1 : ¬ ((p : Int) + 1 < (l.length : Int)) := by omega
  have hx1' : by8 l (p + 1) = 0 := by8_none (by omega)
  rw [hx1] at hx1'
  subst hx1'
  rw [hd0] at HD0
  have x45 : decide (x0 = 45) = false := decide_eq_false h45
  have xb : (x0 == 45) = false := by simpa using h45
  have hms : x0 ≠ 123 ∧ x0 ≠ 125 ∧ x0 ≠ 61 ∧ x0 ≠ 59 ∧ x0 ≠ 46 := by
    refine ⟨?_, ?_, ?_, ?_, ?_⟩ <;> (intro e; subst e; cases hm)
  obtain ⟨m1, m2, m3, m4, m5⟩ := hms
  have k1 : (x0 == 123) = false := by simpa using m1
  have k2 : (x0 == 125) = false := by simpa using m2
  have k3 : (x0 == 61) = false := by simpa using m3
  have k4 : (x0 == 59) = false := by simpa using m4
  have k5 : (x0 == 46) = false := by simpa using m5
  clear hx0 hx1 hlet
  go_enter Tryz.func94, Tryz.ntmps94
  go_wp2_with (first
    | (go_at_call 117; (with_reducible refine (HL.out _).mono ?_); rintro e w' ⟨rfl, rfl⟩)
    | (go_at_call 145; (with_reducible refine (HD0.out _).mono ?_); rintro e w' ⟨rfl, rfl⟩)
    | (go_at_call 145; (with_reducible refine (HD1.out _).mono ?_); rintro e w' ⟨rfl, rfl⟩))
  all_goals exact bodyPost_ret (v := .tuple #[.agg #[.int .u8 0, .string (str []), .int .i64 0, .int .i64 0], .int .i64 0, .int .i64 40]) (by simp [results, Tryz.results94, go_sem, str]) rfl ⟨rfl, (Below.refl _ _).alloc (Nat.le_refl _) _⟩
set_option maxRecDepth 100000 in
set_option maxHeartbeats 2000000 in
theorem rtoken_numA (l : List UInt8) (p N : Nat) (w : World) (hp : p < l.length) (hl : l.length ≤ 1048576) (x0 x1 : Int) (hx0 : by8 l p = x0) (hx1 : by8 l (p + 1) = x1) (hn : p + 1 < l.length) (hlet : letB x0 = false) (hd0 : digB x0 = true) (hN : rowN digB (l.drop (p)) = N) (hN1 : 0 < N) (v : Int) (HNUM : Hid (∀ W, Calls Tryz.prog 146 #[.string (str (sgnS false ((l.drop (p)).take N)))] W fun e w' => e = .returned (.tuple #[.int .i64 v, .bool true]) ∧ Below W.heap.size W w')) : Calls Tryz.prog 94 #[.string (str l), .int .i64 (p : Int)] w (RTok p ⟨⟨2, [], v, 0⟩, 0, N⟩ w) := by
  have e1 := str_size l
  have g0 := str_get l p (by rw [e1]; exact hp)
  rw [hx0] at g0
  have hpI : (p : Int) < (l.length : Int) := by omega
  have hlI : (l.length : Int) ≤ 1048576 := by omega
  have HL := hidden (rletter_any_k x0)
  rw [hlet] at HL
  have HD0 := hidden (rdigit_any_k x0)
  have HD1 := hidden (rdigit_any_k x1)
  have n1 : (p : Int) + 1 < (l.length : Int) := by omega
  have g1 := str_get l (p + 1) (by rw [e1]; exact hn)
  rw [hx1] at g1
  rw [hd0] at HD0
  have HNL : Hid (p + N ≤ l.length) := by have := rowN_le digB (l.drop (p)); rw [hN, List.length_drop] at this; show _ ≤ _; omega
  have HGO := hidden (fun q => row_goes (f := digB) (l := l) (p := p) (q := q) hN)
  have HEN := hidden (fun q => row_ends (f := digB) (l := l) (p := p) (q := q) hN)
  have HCUT : Hid ((str l).extract p (p + N) = str (sgnS false ((l.drop p).take N))) := str_cut l p N
  have HBX := hidden (box_new w (.int .u8 0) (.string ⟨#[]⟩) (.int .i64 0) (.int .i64 0))
  have HB0 : Hid (Below w.heap.size w (w.alloc (.cells #[.int .u8 0, .string ⟨#[]⟩, .int .i64 0, .int .i64 0] 96))) := (Below.refl _ _).alloc (Nat.le_refl _) _
  obtain ⟨S, hS⟩ : ∃ S, str (sgnS false ((l.drop (p)).take N)) = S := ⟨_, rfl⟩
  rw [hS] at HNUM HCUT
  clear hN hx0 hx1 hlet hS hd0
  go_enter Tryz.func94, Tryz.ntmps94
  go_wp2_with (first
    | (go_at_call 117; (with_reducible refine (HL.out _).mono ?_); rintro e w' ⟨rfl, rfl⟩)
    | (go_at_call 145; (with_reducible refine (HD0.out _).mono ?_); rintro e w' ⟨rfl, rfl⟩)
    | (go_at_call 145; (with_reducible refine (HD1.out _).mono ?_); rintro e w' ⟨rfl, rfl⟩))
  go_loopg [9] (l.length - (p + 1)) (fun gk v wr => ∃ q : Nat, p < q ∧ q ≤ l.length ∧ gk = l.length - q ∧ v = .int .i64 (q : Int) ∧ Below w.heap.size w wr ∧ Box w.heap.size wr ∧ q ≤ p + N)
  case atStart => exact ⟨p + 1, Nat.lt_succ_self _, hp, rfl, by go_num, HB0.out, HBX.out, by omega⟩
  case round =>
    obtain ⟨q, hpq, hql, rfl, rfl, hb, hbx, hqN⟩ := hrel
    have HB := hidden hb
    clear hb HB0 HBX HL HD0 HD1
    by_cases hgo : q < l.length ∧ digB (by8 l q) = true
    · obtain ⟨hlt, hw⟩ := hgo
      have j1 : (q : Int) < (l.length : Int) := by omega
      have gi := str_get l q (by rw [e1]; exact hlt)
      have HI := hidden (rdigit_any_k (by8 l q))
      have HN : Hid (q + 1 ≤ p + N) := HGO.out q (by omega) hqN hlt hw
      have HX := hidden hbx
      rw [hw] at HI
      clear hw hbx
      go_wp2_with (go_at_call 145; (with_reducible refine (HI.out _).mono ?_); rintro e w' ⟨rfl, rfl⟩)
      go_roundg (l.length - (q + 1))
      case measure => omega
      case rel => exact ⟨q + 1, by omega, by omega, rfl, by go_num, HB.out, HX.out, HN.out⟩
    · have hqe : q = p + N := by
        by_cases hlt : q < l.length
        · exact HEN.out q (by omega) hqN (by cases h : digB (by8 l q) with | true => exact absurd ⟨hlt, h⟩ hgo | false => rfl)
        · have := HNL.out; omega
      have hcut := HCUT.out
      rw [← hqe] at hcut
      have HBOX := hidden hbx
      have HQ := hidden hqe
      have i0 : (0 : Int) ≤ (p : Int) := by omega
      have i1 : (p : Int) ≤ (q : Int) := by omega
      have i2 : (q : Int) ≤ (l.length : Int) := by omega
      clear HCUT hqe hbx
      by_cases hlt : q < l.length
      · have j1 : (q : Int) < (l.length : Int) := by omega
        have gi := str_get l q (by rw [e1]; exact hlt)
        have HI := hidden (rdigit_any_k (by8 l q))
        have hw' : digB (by8 l q) = false := by cases h : digB (by8 l q) with | true => exact absurd ⟨hlt, h⟩ hgo | false => rfl
        rw [hw'] at HI
        clear hw' hgo
        go_wp2_with (first
          | (go_at_call 145; (with_reducible refine (HI.out _).mono ?_); rintro e w' ⟨rfl, rfl⟩)
          | (go_at_call 146; (with_reducible refine (HNUM.out _).mono ?_); rintro e w1 ⟨rfl, hb1⟩; have HB2 := hidden (HB.out.trans (hb1.mono HB.out.size)); obtain ⟨x1, y1, z5, u1, c0, c1, c2, c3, f0, f1, f2, f3⟩ := (HBOX.out.below hb1).parts; clear hb1))
        all_goals exact bodyPost_ret (v := .tuple #[.agg #[.int .u8 2, .string (str []), .int .i64 v, .int .i64 (p : Int)], .int .i64 (q : Int), .int .i64 0]) (by simp [results, Tryz.results94, go_sem, c0, c1, c2, c3, str]) rfl ⟨by rw [HQ.out]; simp [], below_set4 HB2.out⟩
      · have j1 : ¬ ((q : Int) < (l.length : Int)) := by omega
        clear hgo
        go_wp2_with (go_at_call 146; (with_reducible refine (HNUM.out _).mono ?_); rintro e w1 ⟨rfl, hb1⟩; have HB2 := hidden (HB.out.trans (hb1.mono HB.out.size)); obtain ⟨x1, y1, z5, u1, c0, c1, c2, c3, f0, f1, f2, f3⟩ := (HBOX.out.below hb1).parts; clear hb1)
        all_goals exact bodyPost_ret (v := .tuple #[.agg #[.int .u8 2, .string (str []), .int .i64 v, .int .i64 (p : Int)], .int .i64 (q : Int), .int .i64 0]) (by simp [results, Tryz.results94, go_sem, c0, c1, c2, c3, str]) rfl ⟨by rw [HQ.out]; simp [], below_set4 HB2.out⟩
set_option maxRecDepth 100000 in
set_option maxHeartbeats 2000000 in
theorem rtoken_numB (l : List UInt8) (p N : Nat) (w : World) (hp : p < l.length) (hl : l.length ≤ 1048576) (x0 x1 : Int) (hx0 : by8 l p = x0) (_hx1 : by8 l (p + 1) = x1) (hn : ¬ (p + 1 < l.length)) (hlet : letB x0 = false) (hd0 : digB x0 = true) (hN : rowN digB (l.drop (p)) = N) (hN1 : 0 < N) (v : Int) (HNUM : Hid (∀ W, Calls Tryz.prog 146 #[.string (str (sgnS false ((l.drop (p)).take N)))] W fun e w' => e = .returned (.tuple #[.int .i64 v, .bool true]) ∧ Below W.heap.size W w')) : Calls Tryz.prog 94 #[.string (str l), .int .i64 (p : Int)] w (RTok p ⟨⟨2, [], v, 0⟩, 0, N⟩ w) := by
  have e1 := str_size l
  have g0 := str_get l p (by rw [e1]; exact hp)
  rw [hx0] at g0
  have hpI : (p : Int) < (l.length : Int) := by omega
  have hlI : (l.length : Int) ≤ 1048576 := by omega
  have HL := hidden (rletter_any_k x0)
  rw [hlet] at HL
  have HD0 := hidden (rdigit_any_k x0)
  have HD1 := hidden (rdigit_any_k x1)
  have n1 : ¬ ((p : Int) + 1 < (l.length : Int)) := by omega
  rw [hd0] at HD0
  have HNL : Hid (p + N ≤ l.length) := by have := rowN_le digB (l.drop (p)); rw [hN, List.length_drop] at this; show _ ≤ _; omega
  have HGO := hidden (fun q => row_goes (f := digB) (l := l) (p := p) (q := q) hN)
  have HEN := hidden (fun q => row_ends (f := digB) (l := l) (p := p) (q := q) hN)
  have HCUT : Hid ((str l).extract p (p + N) = str (sgnS false ((l.drop p).take N))) := str_cut l p N
  have HBX := hidden (box_new w (.int .u8 0) (.string ⟨#[]⟩) (.int .i64 0) (.int .i64 0))
  have HB0 : Hid (Below w.heap.size w (w.alloc (.cells #[.int .u8 0, .string ⟨#[]⟩, .int .i64 0, .int .i64 0] 96))) := (Below.refl _ _).alloc (Nat.le_refl _) _
  obtain ⟨S, hS⟩ : ∃ S, str (sgnS false ((l.drop (p)).take N)) = S := ⟨_, rfl⟩
  rw [hS] at HNUM HCUT
  clear hN hx0 _hx1 hlet hS hd0
  go_enter Tryz.func94, Tryz.ntmps94
  go_wp2_with (first
    | (go_at_call 117; (with_reducible refine (HL.out _).mono ?_); rintro e w' ⟨rfl, rfl⟩)
    | (go_at_call 145; (with_reducible refine (HD0.out _).mono ?_); rintro e w' ⟨rfl, rfl⟩)
    | (go_at_call 145; (with_reducible refine (HD1.out _).mono ?_); rintro e w' ⟨rfl, rfl⟩))
  go_loopg [9] (l.length - (p + 1)) (fun gk v wr => ∃ q : Nat, p < q ∧ q ≤ l.length ∧ gk = l.length - q ∧ v = .int .i64 (q : Int) ∧ Below w.heap.size w wr ∧ Box w.heap.size wr ∧ q ≤ p + N)
  case atStart => exact ⟨p + 1, Nat.lt_succ_self _, hp, rfl, by go_num, HB0.out, HBX.out, by omega⟩
  case round =>
    obtain ⟨q, hpq, hql, rfl, rfl, hb, hbx, hqN⟩ := hrel
    have HB := hidden hb
    clear hb HB0 HBX HL HD0 HD1
    by_cases hgo : q < l.length ∧ digB (by8 l q) = true
    · obtain ⟨hlt, hw⟩ := hgo
      have j1 : (q : Int) < (l.length : Int) := by omega
      have gi := str_get l q (by rw [e1]; exact hlt)
      have HI := hidden (rdigit_any_k (by8 l q))
      have HN : Hid (q + 1 ≤ p + N) := HGO.out q (by omega) hqN hlt hw
      have HX := hidden hbx
      rw [hw] at HI
      clear hw hbx
      go_wp2_with (go_at_call 145; (with_reducible refine (HI.out _).mono ?_); rintro e w' ⟨rfl, rfl⟩)
      go_roundg (l.length - (q + 1))
      case measure => omega
      case rel => exact ⟨q + 1, by omega, by omega, rfl, by go_num, HB.out, HX.out, HN.out⟩
    · have hqe : q = p + N := by
        by_cases hlt : q < l.length
        · exact HEN.out q (by omega) hqN (by cases h : digB (by8 l q) with | true => exact absurd ⟨hlt, h⟩ hgo | false => rfl)
        · have := HNL.out; omega
      have hcut := HCUT.out
      rw [← hqe] at hcut
      have HBOX := hidden hbx
      have HQ := hidden hqe
      have i0 : (0 : Int) ≤ (p : Int) := by omega
      have i1 : (p : Int) ≤ (q : Int) := by omega
      have i2 : (q : Int) ≤ (l.length : Int) := by omega
      clear HCUT hqe hbx
      have j1 : ¬ ((q : Int) < (l.length : Int)) := by omega
      clear hgo
      go_wp2_with (go_at_call 146; (with_reducible refine (HNUM.out _).mono ?_); rintro e w1 ⟨rfl, hb1⟩; have HB2 := hidden (HB.out.trans (hb1.mono HB.out.size)); obtain ⟨x1, y1, z5, u1, c0, c1, c2, c3, f0, f1, f2, f3⟩ := (HBOX.out.below hb1).parts; clear hb1)
      all_goals exact bodyPost_ret (v := .tuple #[.agg #[.int .u8 2, .string (str []), .int .i64 v, .int .i64 (p : Int)], .int .i64 (q : Int), .int .i64 0]) (by simp [results, Tryz.results94, go_sem, c0, c1, c2, c3, str]) rfl ⟨by rw [HQ.out]; simp [], below_set4 HB2.out⟩
set_option maxRecDepth 100000 in
set_option maxHeartbeats 2000000 in
theorem rtoken_numC (l : List UInt8) (p N : Nat) (w : World) (hp : p < l.length) (hl : l.length ≤ 1048576) (x0 x1 : Int) (hx0 : by8 l p = x0) (hx1 : by8 l (p + 1) = x1) (hn : p + 1 < l.length) (hlet : letB x0 = false) (hd0 : digB x0 = true) (hN : rowN digB (l.drop (p)) = N) (hN1 : 0 < N) (HNUM : Hid (∀ W, Calls Tryz.prog 146 #[.string (str (sgnS false ((l.drop (p)).take N)))] W fun e w' => ∃ v, e = .returned (.tuple #[.int .i64 v, .bool false]) ∧ Below W.heap.size W w')) : Calls Tryz.prog 94 #[.string (str l), .int .i64 (p : Int)] w (RTok p ⟨noTok, 41, 0⟩ w) := by
  have e1 := str_size l
  have g0 := str_get l p (by rw [e1]; exact hp)
  rw [hx0] at g0
  have hpI : (p : Int) < (l.length : Int) := by omega
  have hlI : (l.length : Int) ≤ 1048576 := by omega
  have HL := hidden (rletter_any_k x0)
  rw [hlet] at HL
  have HD0 := hidden (rdigit_any_k x0)
  have HD1 := hidden (rdigit_any_k x1)
  have n1 : (p : Int) + 1 < (l.length : Int) := by omega
  have g1 := str_get l (p + 1) (by rw [e1]; exact hn)
  rw [hx1] at g1
  rw [hd0] at HD0
  have HNL : Hid (p + N ≤ l.length) := by have := rowN_le digB (l.drop (p)); rw [hN, List.length_drop] at this; show _ ≤ _; omega
  have HGO := hidden (fun q => row_goes (f := digB) (l := l) (p := p) (q := q) hN)
  have HEN := hidden (fun q => row_ends (f := digB) (l := l) (p := p) (q := q) hN)
  have HCUT : Hid ((str l).extract p (p + N) = str (sgnS false ((l.drop p).take N))) := str_cut l p N
  have HBX := hidden (box_new w (.int .u8 0) (.string ⟨#[]⟩) (.int .i64 0) (.int .i64 0))
  have HB0 : Hid (Below w.heap.size w (w.alloc (.cells #[.int .u8 0, .string ⟨#[]⟩, .int .i64 0, .int .i64 0] 96))) := (Below.refl _ _).alloc (Nat.le_refl _) _
  obtain ⟨S, hS⟩ : ∃ S, str (sgnS false ((l.drop (p)).take N)) = S := ⟨_, rfl⟩
  rw [hS] at HNUM HCUT
  clear hN hx0 hx1 hlet hS hd0
  go_enter Tryz.func94, Tryz.ntmps94
  go_wp2_with (first
    | (go_at_call 117; (with_reducible refine (HL.out _).mono ?_); rintro e w' ⟨rfl, rfl⟩)
    | (go_at_call 145; (with_reducible refine (HD0.out _).mono ?_); rintro e w' ⟨rfl, rfl⟩)
    | (go_at_call 145; (with_reducible refine (HD1.out _).mono ?_); rintro e w' ⟨rfl, rfl⟩))
  go_loopg [9] (l.length - (p + 1)) (fun gk v wr => ∃ q : Nat, p < q ∧ q ≤ l.length ∧ gk = l.length - q ∧ v = .int .i64 (q : Int) ∧ Below w.heap.size w wr ∧ Box w.heap.size wr ∧ q ≤ p + N)
  case atStart => exact ⟨p + 1, Nat.lt_succ_self _, hp, rfl, by go_num, HB0.out, HBX.out, by omega⟩
  case round =>
    obtain ⟨q, hpq, hql, rfl, rfl, hb, hbx, hqN⟩ := hrel
    have HB := hidden hb
    clear hb HB0 HBX HL HD0 HD1
    by_cases hgo : q < l.length ∧ digB (by8 l q) = true
    · obtain ⟨hlt, hw⟩ := hgo
      have j1 : (q : Int) < (l.length : Int) := by omega
      have gi := str_get l q (by rw [e1]; exact hlt)
      have HI := hidden (rdigit_any_k (by8 l q))
      have HN : Hid (q + 1 ≤ p + N) := HGO.out q (by omega) hqN hlt hw
      have HX := hidden hbx
      rw [hw] at HI
      clear hw hbx
      go_wp2_with (go_at_call 145; (with_reducible refine (HI.out _).mono ?_); rintro e w' ⟨rfl, rfl⟩)
      go_roundg (l.length - (q + 1))
      case measure => omega
      case rel => exact ⟨q + 1, by omega, by omega, rfl, by go_num, HB.out, HX.out, HN.out⟩
    · have hqe : q = p + N := by
        by_cases hlt : q < l.length
        · exact HEN.out q (by omega) hqN (by cases h : digB (by8 l q) with | true => exact absurd ⟨hlt, h⟩ hgo | false => rfl)
        · have := HNL.out; omega
      have hcut := HCUT.out
      rw [← hqe] at hcut
      have HBOX := hidden hbx
      have HQ := hidden hqe
      have i0 : (0 : Int) ≤ (p : Int) := by omega
      have i1 : (p : Int) ≤ (q : Int) := by omega
      have i2 : (q : Int) ≤ (l.length : Int) := by omega
      clear HCUT hqe hbx
      by_cases hlt : q < l.length
      · have j1 : (q : Int) < (l.length : Int) := by omega
        have gi := str_get l q (by rw [e1]; exact hlt)
        have HI := hidden (rdigit_any_k (by8 l q))
        have hw' : digB (by8 l q) = false := by cases h : digB (by8 l q) with | true => exact absurd ⟨hlt, h⟩ hgo | false => rfl
        rw [hw'] at HI
        clear hw' hgo
        go_wp2_with (first
          | (go_at_call 145; (with_reducible refine (HI.out _).mono ?_); rintro e w' ⟨rfl, rfl⟩)
          | (go_at_call 146; (with_reducible refine (HNUM.out _).mono ?_); rintro e w1 ⟨v, rfl, hb1⟩; have HB2 := hidden (HB.out.trans (hb1.mono HB.out.size)); obtain ⟨x1, y1, z5, u1, c0, c1, c2, c3, f0, f1, f2, f3⟩ := (HBOX.out.below hb1).parts; clear hb1))
        all_goals exact bodyPost_ret (v := .tuple #[.agg #[.int .u8 0, .string (str []), .int .i64 0, .int .i64 0], .int .i64 0, .int .i64 41]) (by simp [results, Tryz.results94, go_sem, c0, c1, c2, c3, str]) rfl ⟨rfl, below_set4 HB2.out⟩
      · have j1 : ¬ ((q : Int) < (l.length : Int)) := by omega
        clear hgo
        go_wp2_with (go_at_call 146; (with_reducible refine (HNUM.out _).mono ?_); rintro e w1 ⟨v, rfl, hb1⟩; have HB2 := hidden (HB.out.trans (hb1.mono HB.out.size)); obtain ⟨x1, y1, z5, u1, c0, c1, c2, c3, f0, f1, f2, f3⟩ := (HBOX.out.below hb1).parts; clear hb1)
        all_goals exact bodyPost_ret (v := .tuple #[.agg #[.int .u8 0, .string (str []), .int .i64 0, .int .i64 0], .int .i64 0, .int .i64 41]) (by simp [results, Tryz.results94, go_sem, c0, c1, c2, c3, str]) rfl ⟨rfl, below_set4 HB2.out⟩
set_option maxRecDepth 100000 in
set_option maxHeartbeats 2000000 in
theorem rtoken_numD (l : List UInt8) (p N : Nat) (w : World) (hp : p < l.length) (hl : l.length ≤ 1048576) (x0 x1 : Int) (hx0 : by8 l p = x0) (_hx1 : by8 l (p + 1) = x1) (hn : ¬ (p + 1 < l.length)) (hlet : letB x0 = false) (hd0 : digB x0 = true) (hN : rowN digB (l.drop (p)) = N) (hN1 : 0 < N) (HNUM : Hid (∀ W, Calls Tryz.prog 146 #[.string (str (sgnS false ((l.drop (p)).take N)))] W fun e w' => ∃ v, e = .returned (.tuple #[.int .i64 v, .bool false]) ∧ Below W.heap.size W w')) : Calls Tryz.prog 94 #[.string (str l), .int .i64 (p : Int)] w (RTok p ⟨noTok, 41, 0⟩ w) := by
  have e1 := str_size l
  have g0 := str_get l p (by rw [e1]; exact hp)
  rw [hx0] at g0
  have hpI : (p : Int) < (l.length : Int) := by omega
  have hlI : (l.length : Int) ≤ 1048576 := by omega
  have HL := hidden (rletter_any_k x0)
  rw [hlet] at HL
  have HD0 := hidden (rdigit_any_k x0)
  have HD1 := hidden (rdigit_any_k x1)
  have n1 : ¬ ((p : Int) + 1 < (l.length : Int)) := by omega
  rw [hd0] at HD0
  have HNL : Hid (p + N ≤ l.length) := by have := rowN_le digB (l.drop (p)); rw [hN, List.length_drop] at this; show _ ≤ _; omega
  have HGO := hidden (fun q => row_goes (f := digB) (l := l) (p := p) (q := q) hN)
  have HEN := hidden (fun q => row_ends (f := digB) (l := l) (p := p) (q := q) hN)
  have HCUT : Hid ((str l).extract p (p + N) = str (sgnS false ((l.drop p).take N))) := str_cut l p N
  have HBX := hidden (box_new w (.int .u8 0) (.string ⟨#[]⟩) (.int .i64 0) (.int .i64 0))
  have HB0 : Hid (Below w.heap.size w (w.alloc (.cells #[.int .u8 0, .string ⟨#[]⟩, .int .i64 0, .int .i64 0] 96))) := (Below.refl _ _).alloc (Nat.le_refl _) _
  obtain ⟨S, hS⟩ : ∃ S, str (sgnS false ((l.drop (p)).take N)) = S := ⟨_, rfl⟩
  rw [hS] at HNUM HCUT
  clear hN hx0 _hx1 hlet hS hd0
  go_enter Tryz.func94, Tryz.ntmps94
  go_wp2_with (first
    | (go_at_call 117; (with_reducible refine (HL.out _).mono ?_); rintro e w' ⟨rfl, rfl⟩)
    | (go_at_call 145; (with_reducible refine (HD0.out _).mono ?_); rintro e w' ⟨rfl, rfl⟩)
    | (go_at_call 145; (with_reducible refine (HD1.out _).mono ?_); rintro e w' ⟨rfl, rfl⟩))
  go_loopg [9] (l.length - (p + 1)) (fun gk v wr => ∃ q : Nat, p < q ∧ q ≤ l.length ∧ gk = l.length - q ∧ v = .int .i64 (q : Int) ∧ Below w.heap.size w wr ∧ Box w.heap.size wr ∧ q ≤ p + N)
  case atStart => exact ⟨p + 1, Nat.lt_succ_self _, hp, rfl, by go_num, HB0.out, HBX.out, by omega⟩
  case round =>
    obtain ⟨q, hpq, hql, rfl, rfl, hb, hbx, hqN⟩ := hrel
    have HB := hidden hb
    clear hb HB0 HBX HL HD0 HD1
    by_cases hgo : q < l.length ∧ digB (by8 l q) = true
    · obtain ⟨hlt, hw⟩ := hgo
      have j1 : (q : Int) < (l.length : Int) := by omega
      have gi := str_get l q (by rw [e1]; exact hlt)
      have HI := hidden (rdigit_any_k (by8 l q))
      have HN : Hid (q + 1 ≤ p + N) := HGO.out q (by omega) hqN hlt hw
      have HX := hidden hbx
      rw [hw] at HI
      clear hw hbx
      go_wp2_with (go_at_call 145; (with_reducible refine (HI.out _).mono ?_); rintro e w' ⟨rfl, rfl⟩)
      go_roundg (l.length - (q + 1))
      case measure => omega
      case rel => exact ⟨q + 1, by omega, by omega, rfl, by go_num, HB.out, HX.out, HN.out⟩
    · have hqe : q = p + N := by
        by_cases hlt : q < l.length
        · exact HEN.out q (by omega) hqN (by cases h : digB (by8 l q) with | true => exact absurd ⟨hlt, h⟩ hgo | false => rfl)
        · have := HNL.out; omega
      have hcut := HCUT.out
      rw [← hqe] at hcut
      have HBOX := hidden hbx
      have HQ := hidden hqe
      have i0 : (0 : Int) ≤ (p : Int) := by omega
      have i1 : (p : Int) ≤ (q : Int) := by omega
      have i2 : (q : Int) ≤ (l.length : Int) := by omega
      clear HCUT hqe hbx
      have j1 : ¬ ((q : Int) < (l.length : Int)) := by omega
      clear hgo
      go_wp2_with (go_at_call 146; (with_reducible refine (HNUM.out _).mono ?_); rintro e w1 ⟨v, rfl, hb1⟩; have HB2 := hidden (HB.out.trans (hb1.mono HB.out.size)); obtain ⟨x1, y1, z5, u1, c0, c1, c2, c3, f0, f1, f2, f3⟩ := (HBOX.out.below hb1).parts; clear hb1)
      all_goals exact bodyPost_ret (v := .tuple #[.agg #[.int .u8 0, .string (str []), .int .i64 0, .int .i64 0], .int .i64 0, .int .i64 41]) (by simp [results, Tryz.results94, go_sem, c0, c1, c2, c3, str]) rfl ⟨rfl, below_set4 HB2.out⟩
set_option maxRecDepth 100000 in
set_option maxHeartbeats 2000000 in
theorem rtoken_minA (l : List UInt8) (p N : Nat) (w : World) (hp : p < l.length) (hl : l.length ≤ 1048576) (x0 x1 : Int) (hx0 : by8 l p = x0) (hx1 : by8 l (p + 1) = x1) (hn : p + 1 < l.length) (hlet : letB x0 = false) (h45 : x0 = 45) (hd1 : digB x1 = true) (hN : rowN digB (l.drop (p + 1)) = N) (hN1 : 0 < N) (v : Int) (HNUM : Hid (∀ W, Calls Tryz.prog 146 #[.string (str (sgnS true ((l.drop (p + 1)).take N)))] W fun e w' => e = .returned (.tuple #[.int .i64 v, .bool true]) ∧ Below W.heap.size W w')) : Calls Tryz.prog 94 #[.string (str l), .int .i64 (p : Int)] w (RTok p ⟨⟨2, [], v, 0⟩, 0, 1 + N⟩ w) := by
  have e1 := str_size l
  have g0 := str_get l p (by rw [e1]; exact hp)
  rw [hx0] at g0
  have hpI : (p : Int) < (l.length : Int) := by omega
  have hlI : (l.length : Int) ≤ 1048576 := by omega
  have HL := hidden (rletter_any_k x0)
  rw [hlet] at HL
  have HD0 := hidden (rdigit_any_k x0)
  have HD1 := hidden (rdigit_any_k x1)
  have n1 : (p : Int) + 1 < (l.length : Int) := by omega
  have g1 := str_get l (p + 1) (by rw [e1]; exact hn)
  rw [hx1] at g1
  subst h45
  rw [show digB 45 = false from rfl] at HD0
  rw [hd1] at HD1
  have HNL : Hid (p + 1 + N ≤ l.length) := by have := rowN_le digB (l.drop (p + 1)); rw [hN, List.length_drop] at this; show _ ≤ _; omega
  have HGO := hidden (fun q => row_goes (f := digB) (l := l) (p := p + 1) (q := q) hN)
  have HEN := hidden (fun q => row_ends (f := digB) (l := l) (p := p + 1) (q := q) hN)
  have HCUT : Hid ((str l).extract p (p + 1 + N) = str (sgnS true ((l.drop (p + 1)).take N))) := by
    have := str_cut l p (1 + N)
    rw [← Nat.add_assoc] at this
    show _ = _
    rw [this]
    have e : l.drop p = 45 :: l.drop (p + 1) := by
      rw [List.drop_eq_getElem_cons hp]
      have : (l[p].toNat : Int) = 45 := by
        have h := hx0
        unfold by8 at h
        rw [List.getD_eq_getElem?_getD, List.getElem?_eq_getElem hp] at h
        exact h
      have h2 : l[p] = 45 := UInt8.toNat_inj.mp (by show l[p].toNat = 45; omega)
      rw [h2]
    rw [e, Nat.add_comm 1 N]
    rfl
  have HBX := hidden (box_new w (.int .u8 0) (.string ⟨#[]⟩) (.int .i64 0) (.int .i64 0))
  have HB0 : Hid (Below w.heap.size w (w.alloc (.cells #[.int .u8 0, .string ⟨#[]⟩, .int .i64 0, .int .i64 0] 96))) := (Below.refl _ _).alloc (Nat.le_refl _) _
  obtain ⟨S, hS⟩ : ∃ S, str (sgnS true ((l.drop (p + 1)).take N)) = S := ⟨_, rfl⟩
  rw [hS] at HNUM HCUT
  clear hN hx0 hx1 hlet hS hd1
  go_enter Tryz.func94, Tryz.ntmps94
  go_wp2_with (first
    | (go_at_call 117; (with_reducible refine (HL.out _).mono ?_); rintro e w' ⟨rfl, rfl⟩)
    | (go_at_call 145; (with_reducible refine (HD0.out _).mono ?_); rintro e w' ⟨rfl, rfl⟩)
    | (go_at_call 145; (with_reducible refine (HD1.out _).mono ?_); rintro e w' ⟨rfl, rfl⟩))
  go_loopg [9] (l.length - (p + 1)) (fun gk v wr => ∃ q : Nat, p < q ∧ q ≤ l.length ∧ gk = l.length - q ∧ v = .int .i64 (q : Int) ∧ Below w.heap.size w wr ∧ Box w.heap.size wr ∧ q ≤ p + 1 + N)
  case atStart => exact ⟨p + 1, Nat.lt_succ_self _, hp, rfl, by go_num, HB0.out, HBX.out, by omega⟩
  case round =>
    obtain ⟨q, hpq, hql, rfl, rfl, hb, hbx, hqN⟩ := hrel
    have HB := hidden hb
    clear hb HB0 HBX HL HD0 HD1
    by_cases hgo : q < l.length ∧ digB (by8 l q) = true
    · obtain ⟨hlt, hw⟩ := hgo
      have j1 : (q : Int) < (l.length : Int) := by omega
      have gi := str_get l q (by rw [e1]; exact hlt)
      have HI := hidden (rdigit_any_k (by8 l q))
      have HN : Hid (q + 1 ≤ p + 1 + N) := HGO.out q (by omega) hqN hlt hw
      have HX := hidden hbx
      rw [hw] at HI
      clear hw hbx
      go_wp2_with (go_at_call 145; (with_reducible refine (HI.out _).mono ?_); rintro e w' ⟨rfl, rfl⟩)
      go_roundg (l.length - (q + 1))
      case measure => omega
      case rel => exact ⟨q + 1, by omega, by omega, rfl, by go_num, HB.out, HX.out, HN.out⟩
    · have hqe : q = p + 1 + N := by
        by_cases hlt : q < l.length
        · exact HEN.out q (by omega) hqN (by cases h : digB (by8 l q) with | true => exact absurd ⟨hlt, h⟩ hgo | false => rfl)
        · have := HNL.out; omega
      have hcut := HCUT.out
      rw [← hqe] at hcut
      have HBOX := hidden hbx
      have HQ := hidden hqe
      have i0 : (0 : Int) ≤ (p : Int) := by omega
      have i1 : (p : Int) ≤ (q : Int) := by omega
      have i2 : (q : Int) ≤ (l.length : Int) := by omega
      clear HCUT hqe hbx
      by_cases hlt : q < l.length
      · have j1 : (q : Int) < (l.length : Int) := by omega
        have gi := str_get l q (by rw [e1]; exact hlt)
        have HI := hidden (rdigit_any_k (by8 l q))
        have hw' : digB (by8 l q) = false := by cases h : digB (by8 l q) with | true => exact absurd ⟨hlt, h⟩ hgo | false => rfl
        rw [hw'] at HI
        clear hw' hgo
        go_wp2_with (first
          | (go_at_call 145; (with_reducible refine (HI.out _).mono ?_); rintro e w' ⟨rfl, rfl⟩)
          | (go_at_call 146; (with_reducible refine (HNUM.out _).mono ?_); rintro e w1 ⟨rfl, hb1⟩; have HB2 := hidden (HB.out.trans (hb1.mono HB.out.size)); obtain ⟨x1, y1, z5, u1, c0, c1, c2, c3, f0, f1, f2, f3⟩ := (HBOX.out.below hb1).parts; clear hb1))
        all_goals exact bodyPost_ret (v := .tuple #[.agg #[.int .u8 2, .string (str []), .int .i64 v, .int .i64 (p : Int)], .int .i64 (q : Int), .int .i64 0]) (by simp [results, Tryz.results94, go_sem, c0, c1, c2, c3, str]) rfl ⟨by rw [HQ.out]; simp [Nat.add_assoc], below_set4 HB2.out⟩
      · have j1 : ¬ ((q : Int) < (l.length : Int)) := by omega
        clear hgo
        go_wp2_with (go_at_call 146; (with_reducible refine (HNUM.out _).mono ?_); rintro e w1 ⟨rfl, hb1⟩; have HB2 := hidden (HB.out.trans (hb1.mono HB.out.size)); obtain ⟨x1, y1, z5, u1, c0, c1, c2, c3, f0, f1, f2, f3⟩ := (HBOX.out.below hb1).parts; clear hb1)
        all_goals exact bodyPost_ret (v := .tuple #[.agg #[.int .u8 2, .string (str []), .int .i64 v, .int .i64 (p : Int)], .int .i64 (q : Int), .int .i64 0]) (by simp [results, Tryz.results94, go_sem, c0, c1, c2, c3, str]) rfl ⟨by rw [HQ.out]; simp [Nat.add_assoc], below_set4 HB2.out⟩
set_option maxRecDepth 100000 in
set_option maxHeartbeats 2000000 in
theorem rtoken_minC (l : List UInt8) (p N : Nat) (w : World) (hp : p < l.length) (hl : l.length ≤ 1048576) (x0 x1 : Int) (hx0 : by8 l p = x0) (hx1 : by8 l (p + 1) = x1) (hn : p + 1 < l.length) (hlet : letB x0 = false) (h45 : x0 = 45) (hd1 : digB x1 = true) (hN : rowN digB (l.drop (p + 1)) = N) (hN1 : 0 < N) (HNUM : Hid (∀ W, Calls Tryz.prog 146 #[.string (str (sgnS true ((l.drop (p + 1)).take N)))] W fun e w' => ∃ v, e = .returned (.tuple #[.int .i64 v, .bool false]) ∧ Below W.heap.size W w')) : Calls Tryz.prog 94 #[.string (str l), .int .i64 (p : Int)] w (RTok p ⟨noTok, 41, 0⟩ w) := by
  have e1 := str_size l
  have g0 := str_get l p (by rw [e1]; exact hp)
  rw [hx0] at g0
  have hpI : (p : Int) < (l.length : Int) := by omega
  have hlI : (l.length : Int) ≤ 1048576 := by omega
  have HL := hidden (rletter_any_k x0)
  rw [hlet] at HL
  have HD0 := hidden (rdigit_any_k x0)
  have HD1 := hidden (rdigit_any_k x1)
  have n1 : (p : Int) + 1 < (l.length : Int) := by omega
  have g1 := str_get l (p + 1) (by rw [e1]; exact hn)
  rw [hx1] at g1
  subst h45
  rw [show digB 45 = false from rfl] at HD0
  rw [hd1] at HD1
  have HNL : Hid (p + 1 + N ≤ l.length) := by have := rowN_le digB (l.drop (p + 1)); rw [hN, List.length_drop] at this; show _ ≤ _; omega
  have HGO := hidden (fun q => row_goes (f := digB) (l := l) (p := p + 1) (q := q) hN)
  have HEN := hidden (fun q => row_ends (f := digB) (l := l) (p := p + 1) (q := q) hN)
  have HCUT : Hid ((str l).extract p (p + 1 + N) = str (sgnS true ((l.drop (p + 1)).take N))) := by
    have := str_cut l p (1 + N)
    rw [← Nat.add_assoc] at this
    show _ = _
    rw [this]
    have e : l.drop p = 45 :: l.drop (p + 1) := by
      rw [List.drop_eq_getElem_cons hp]
      have : (l[p].toNat : Int) = 45 := by
        have h := hx0
        unfold by8 at h
        rw [List.getD_eq_getElem?_getD, List.getElem?_eq_getElem hp] at h
        exact h
      have h2 : l[p] = 45 := UInt8.toNat_inj.mp (by show l[p].toNat = 45; omega)
      rw [h2]
    rw [e, Nat.add_comm 1 N]
    rfl
  have HBX := hidden (box_new w (.int .u8 0) (.string ⟨#[]⟩) (.int .i64 0) (.int .i64 0))
  have HB0 : Hid (Below w.heap.size w (w.alloc (.cells #[.int .u8 0, .string ⟨#[]⟩, .int .i64 0, .int .i64 0] 96))) := (Below.refl _ _).alloc (Nat.le_refl _) _
  obtain ⟨S, hS⟩ : ∃ S, str (sgnS true ((l.drop (p + 1)).take N)) = S := ⟨_, rfl⟩
  rw [hS] at HNUM HCUT
  clear hN hx0 hx1 hlet hS hd1
  go_enter Tryz.func94, Tryz.ntmps94
  go_wp2_with (first
    | (go_at_call 117; (with_reducible refine (HL.out _).mono ?_); rintro e w' ⟨rfl, rfl⟩)
    | (go_at_call 145; (with_reducible refine (HD0.out _).mono ?_); rintro e w' ⟨rfl, rfl⟩)
    | (go_at_call 145; (with_reducible refine (HD1.out _).mono ?_); rintro e w' ⟨rfl, rfl⟩))
  go_loopg [9] (l.length - (p + 1)) (fun gk v wr => ∃ q : Nat, p < q ∧ q ≤ l.length ∧ gk = l.length - q ∧ v = .int .i64 (q : Int) ∧ Below w.heap.size w wr ∧ Box w.heap.size wr ∧ q ≤ p + 1 + N)
  case atStart => exact ⟨p + 1, Nat.lt_succ_self _, hp, rfl, by go_num, HB0.out, HBX.out, by omega⟩
  case round =>
    obtain ⟨q, hpq, hql, rfl, rfl, hb, hbx, hqN⟩ := hrel
    have HB := hidden hb
    clear hb HB0 HBX HL HD0 HD1
    by_cases hgo : q < l.length ∧ digB (by8 l q) = true
    · obtain ⟨hlt, hw⟩ := hgo
      have j1 : (q : Int) < (l.length : Int) := by omega
      have gi := str_get l q (by rw [e1]; exact hlt)
      have HI := hidden (rdigit_any_k (by8 l q))
      have HN : Hid (q + 1 ≤ p + 1 + N) := HGO.out q (by omega) hqN hlt hw
      have HX := hidden hbx
      rw [hw] at HI
      clear hw hbx
      go_wp2_with (go_at_call 145; (with_reducible refine (HI.out _).mono ?_); rintro e w' ⟨rfl, rfl⟩)
      go_roundg (l.length - (q + 1))
      case measure => omega
      case rel => exact ⟨q + 1, by omega, by omega, rfl, by go_num, HB.out, HX.out, HN.out⟩
    · have hqe : q = p + 1 + N := by
        by_cases hlt : q < l.length
        · exact HEN.out q (by omega) hqN (by cases h : digB (by8 l q) with | true => exact absurd ⟨hlt, h⟩ hgo | false => rfl)
        · have := HNL.out; omega
      have hcut := HCUT.out
      rw [← hqe] at hcut
      have HBOX := hidden hbx
      have HQ := hidden hqe
      have i0 : (0 : Int) ≤ (p : Int) := by omega
      have i1 : (p : Int) ≤ (q : Int) := by omega
      have i2 : (q : Int) ≤ (l.length : Int) := by omega
      clear HCUT hqe hbx
      by_cases hlt : q < l.length
      · have j1 : (q : Int) < (l.length : Int) := by omega
        have gi := str_get l q (by rw [e1]; exact hlt)
        have HI := hidden (rdigit_any_k (by8 l q))
        have hw' : digB (by8 l q) = false := by cases h : digB (by8 l q) with | true => exact absurd ⟨hlt, h⟩ hgo | false => rfl
        rw [hw'] at HI
        clear hw' hgo
        go_wp2_with (first
          | (go_at_call 145; (with_reducible refine (HI.out _).mono ?_); rintro e w' ⟨rfl, rfl⟩)
          | (go_at_call 146; (with_reducible refine (HNUM.out _).mono ?_); rintro e w1 ⟨v, rfl, hb1⟩; have HB2 := hidden (HB.out.trans (hb1.mono HB.out.size)); obtain ⟨x1, y1, z5, u1, c0, c1, c2, c3, f0, f1, f2, f3⟩ := (HBOX.out.below hb1).parts; clear hb1))
        all_goals exact bodyPost_ret (v := .tuple #[.agg #[.int .u8 0, .string (str []), .int .i64 0, .int .i64 0], .int .i64 0, .int .i64 41]) (by simp [results, Tryz.results94, go_sem, c0, c1, c2, c3, str]) rfl ⟨rfl, below_set4 HB2.out⟩
      · have j1 : ¬ ((q : Int) < (l.length : Int)) := by omega
        clear hgo
        go_wp2_with (go_at_call 146; (with_reducible refine (HNUM.out _).mono ?_); rintro e w1 ⟨v, rfl, hb1⟩; have HB2 := hidden (HB.out.trans (hb1.mono HB.out.size)); obtain ⟨x1, y1, z5, u1, c0, c1, c2, c3, f0, f1, f2, f3⟩ := (HBOX.out.below hb1).parts; clear hb1)
        all_goals exact bodyPost_ret (v := .tuple #[.agg #[.int .u8 0, .string (str []), .int .i64 0, .int .i64 0], .int .i64 0, .int .i64 41]) (by simp [results, Tryz.results94, go_sem, c0, c1, c2, c3, str]) rfl ⟨rfl, below_set4 HB2.out⟩
theorem rnum_said {neg : Bool} {ds : List UInt8} (hd : allD ds) (h0 : 0 < ds.length) (hB : ds.length ≤ 1048576) :
    (∃ v, numO neg ds = some v ∧ Hid (∀ W, Calls Tryz.prog 146 #[.string (str (sgnS neg ds))] W fun e w' => e = .returned (.tuple #[.int .i64 v, .bool true]) ∧ Below W.heap.size W w')) ∨
    (numO neg ds = none ∧ Hid (∀ W, Calls Tryz.prog 146 #[.string (str (sgnS neg ds))] W fun e w' => ∃ v, e = .returned (.tuple #[.int .i64 v, .bool false]) ∧ Below W.heap.size W w')) := by
  cases h : numO neg ds with
  | some v =>
    refine Or.inl ⟨v, rfl, fun W => (rnumber_any neg ds W hd h0 hB).mono ?_⟩
    rintro e w' ⟨x, b, he, h2, hb⟩
    rw [h] at h2
    rcases h2 with ⟨h2, rfl⟩ | ⟨h2, -⟩
    · cases h2
      exact ⟨he, hb⟩
    · cases h2
  | none =>
    refine Or.inr ⟨rfl, fun W => (rnumber_any neg ds W hd h0 hB).mono ?_⟩
    rintro e w' ⟨x, b, he, h2, hb⟩
    rw [h] at h2
    rcases h2 with ⟨h2, -⟩ | ⟨-, rfl⟩
    · cases h2
    · exact ⟨x, he, hb⟩
/-- The document's token is the plain one. -/
theorem rtoken_any (l : List UInt8) (p : Nat) (w : World) (hp : p < l.length) (hl : l.length ≤ 1048576) : Calls Tryz.prog 94 #[.string (str l), .int .i64 (p : Int)] w (RTok p (tokO (l.drop p)) w) := by
  have e0 : by8 (l.drop p) 0 = by8 l p := by8_from l p 0
  have e1 : by8 (l.drop p) 1 = by8 l (p + 1) := by8_from l p 1
  unfold tokO
  rw [e0, e1]
  by_cases h1 : letB (by8 l p) = true
  · rw [if_pos h1]
    have hpos : 0 < rowN wordB (l.drop p) := row_pos0 (by rw [e0]; exact letB_word h1) (by rw [e0]; exact letB_ne h1)
    by_cases hn : p + 1 < l.length
    · exact rtoken_wordA l p _ w hp hl _ rfl h1 rfl hpos hn
    · exact rtoken_wordB l p _ w hp hl _ rfl h1 rfl hpos hn
  rw [if_neg h1]
  have h1' : letB (by8 l p) = false := by simpa using h1
  by_cases hd0 : digB (by8 l p) = true
  · rw [hd0, Bool.true_or, if_pos rfl]
    have hpos : 0 < rowN digB (l.drop p) := row_pos0 (by rw [e0]; exact hd0) (by rw [e0]; exact digB_ne0 hd0)
    have hne : ¬ (by8 (l.drop p) 0 = 45) := by rw [e0]; intro e; rw [e] at hd0; cases hd0
    have EN : numberO (l.drop p) = match numO false ((l.drop p).take (rowN digB (l.drop p))) with
      | none => ⟨noTok, 41, 0⟩
      | some v => ⟨⟨2, [], v, 0⟩, 0, rowN digB (l.drop p)⟩ := by
      unfold numberO
      simp only [hne, decide_false, Bool.false_eq_true, if_false, Nat.zero_add]
      rfl
    rw [EN]
    have hds : ((l.drop p).take (rowN digB (l.drop p))).length = rowN digB (l.drop p) := len_take_row _ _
    have hrl : rowN digB (l.drop p) ≤ 1048576 := by have := rowN_le digB (l.drop p); rw [List.length_drop] at this; omega
    rcases rnum_said (neg := false) (allD_row (l.drop p)) (by rw [hds]; exact hpos) (by rw [hds]; exact hrl) with ⟨v, hv, HN⟩ | ⟨hv, HN⟩
    · rw [hv]
      by_cases hn : p + 1 < l.length
      · exact rtoken_numA l p _ w hp hl _ _ rfl rfl hn h1' hd0 rfl hpos v HN
      · exact rtoken_numB l p _ w hp hl _ _ rfl rfl hn h1' hd0 rfl hpos v HN
    · rw [hv]
      by_cases hn : p + 1 < l.length
      · exact rtoken_numC l p _ w hp hl _ _ rfl rfl hn h1' hd0 rfl hpos HN
      · exact rtoken_numD l p _ w hp hl _ _ rfl rfl hn h1' hd0 rfl hpos HN
  have hd0' : digB (by8 l p) = false := by simpa using hd0
  rw [hd0', Bool.false_or]
  by_cases h45 : by8 l p = 45
  · rw [decide_eq_true h45, Bool.true_and, Bool.true_and]
    by_cases hd1 : digB (by8 l (p + 1)) = true
    · rw [if_pos hd1]
      have hn : p + 1 < l.length := by8_pos (digB_ne0 hd1)
      have e2 : by8 (l.drop (p + 1)) 0 = by8 l (p + 1) := by8_from l (p + 1) 0
      have hpos : 0 < rowN digB (l.drop (p + 1)) := row_pos0 (by rw [e2]; exact hd1) (by rw [e2]; exact digB_ne0 hd1)
      have he : by8 (l.drop p) 0 = 45 := by rw [e0]; exact h45
      have EN : numberO (l.drop p) = match numO true ((l.drop (p + 1)).take (rowN digB (l.drop (p + 1)))) with
        | none => ⟨noTok, 41, 0⟩
        | some v => ⟨⟨2, [], v, 0⟩, 0, 1 + rowN digB (l.drop (p + 1))⟩ := by
        unfold numberO
        simp only [he, decide_true, if_true, List.drop_drop]
        rfl
      rw [EN]
      have hds : ((l.drop (p + 1)).take (rowN digB (l.drop (p + 1)))).length = rowN digB (l.drop (p + 1)) := len_take_row _ _
      have hrl : rowN digB (l.drop (p + 1)) ≤ 1048576 := by have := rowN_le digB (l.drop (p + 1)); rw [List.length_drop] at this; omega
      rcases rnum_said (neg := true) (allD_row (l.drop (p + 1))) (by rw [hds]; exact hpos) (by rw [hds]; exact hrl) with ⟨v, hv, HN⟩ | ⟨hv, HN⟩
      · rw [hv]
        exact rtoken_minA l p _ w hp hl _ _ rfl rfl hn h1' h45 hd1 rfl hpos v HN
      · rw [hv]
        exact rtoken_minC l p _ w hp hl _ _ rfl rfl hn h1' h45 hd1 rfl hpos HN
    · rw [if_neg hd1]
      have hd1' : digB (by8 l (p + 1)) = false := by simpa using hd1
      have hm : markB (by8 l p) = false := by rw [h45]; rfl
      rw [hm, if_neg (by decide)]
      by_cases h62 : by8 l (p + 1) = 62
      · rw [decide_eq_true h62, if_pos rfl]
        exact rtoken_arrow l p w hp hl _ _ rfl rfl (by8_pos (by rw [h62]; decide)) h1' h45 h62
      · rw [decide_eq_false h62, if_neg (by decide)]
        by_cases hn : p + 1 < l.length
        · exact rtoken_wrongA l p w hp hl _ _ rfl rfl hn h1' h45 h62 hd1'
        · exact rtoken_wrongB l p w hp hl _ _ rfl rfl hn h1' h45 h62 hd1'
  · rw [decide_eq_false h45, Bool.false_and, Bool.false_and, if_neg (by decide)]
    by_cases hm : markB (by8 l p) = true
    · rw [if_pos hm]
      by_cases hn : p + 1 < l.length
      · exact rtoken_markA l p w hp hl _ _ rfl rfl hn h1' hd0' h45 hm
      · exact rtoken_markB l p w hp hl _ _ rfl rfl hn h1' hd0' h45 hm
    · have hm' : markB (by8 l p) = false := by simpa using hm
      rw [if_neg hm, if_neg (by decide)]
      by_cases hn : p + 1 < l.length
      · exact rtoken_wrongC l p w hp hl _ _ rfl rfl hn h1' hd0' h45 hm'
      · exact rtoken_wrongD l p w hp hl _ _ rfl rfl hn h1' hd0' h45 hm'
theorem allL_skip {p k : Nat} {l : List UInt8} (h : skipN false l = k + skipN false (l.drop k)) : allL p l = allL (p + k) (l.drop k) := by
  have e : (l.drop k).drop (skipN false (l.drop k)) = l.drop (skipN false l) := by rw [List.drop_drop, ← h]
  have e3 : p + k + skipN false (l.drop k) = p + skipN false l := by omega
  by_cases h1 : l.drop (skipN false l) = []
  · rw [allL_end h1, allL_end (by rw [e]; exact h1), e3]
  · by_cases h2 : (tokO (l.drop (skipN false l))).err = 0
    · rw [allL_tok h1 h2, allL_tok (p := p + k) (l := l.drop k) (by rw [e]; exact h1) (by rw [e]; exact h2), e, e3, List.drop_drop]
      have e4 : k + (skipN false (l.drop k) + (tokO (l.drop (skipN false l))).n) = skipN false l + (tokO (l.drop (skipN false l))).n := by omega
      rw [e4]
    · rw [allL_err h1 h2, allL_err (p := p + k) (l := l.drop k) (by rw [e]; exact h1) (by rw [e]; exact h2), e, e3]
theorem skip_one {l : List UInt8} (hl : 0 < l.length) (h : blankB (by8 l 0) = true) : skipN false l = 1 + skipN false (l.drop 1) := by
  cases l with
  | nil => simp at hl
  | cons c r =>
    rw [by8_zero] at h
    rw [skipN, if_pos h]
    simp
    omega
/-- The state of the document's All between two tokens. -/
structure RSt (w : World) (v : Value) (ts : List Tok) (wr : World) : Prop where
  owns : Toks (w.heap.size + 1) wr v ts
  fault : wr.heap[w.heap.size]? = some (.cells #[.int .i64 0, .int .i64 0] 33 (0, 0))
  bel : Below w.heap.size w wr
theorem RSt.below {w v ts wr w'} (h : RSt w v ts wr) (hb : Below wr.heap.size wr w') : RSt w v ts w' where
  owns := h.owns.below hb
  fault := (hb.block _ (Array.getElem?_eq_some_iff.1 h.fault).1).trans h.fault
  bel := h.bel.trans (hb.mono h.bel.size)
theorem RSt.app {w v ts wr v' w' t} (h : RSt w v ts wr) (ho : w'.ownsRow (w.heap.size + 1) 96 4 v' (ts.length + 1) (ts.flatMap tokC ++ tokC t)) (hg : wr.grownBy w' v.ownBlock) : RSt w v' (ts ++ [t]) w' where
  owns := by unfold Toks; rw [List.flatMap_append, List.length_append]; simpa [List.flatMap] using ho
  fault := (hg.block _ (Array.getElem?_eq_some_iff.1 h.fault).1 (fun e => h.owns.ne (k := w.heap.size) (by omega) e.symm)).trans h.fault
  bel := below_grownO_k h.bel hg (fun k e => by
    rcases Nat.lt_or_ge k (w.heap.size + 1) with h1 | h1
    · exact absurd e (h.owns.ne h1)
    · omega) h.bel.size
theorem tok_news1 (w : World) (c0 c1 c2 c3 : Value) (t : TypeId) : ∀ j u, [c0, c1, c2, c3][j]? = some u → (w.alloc (.cells #[c0, c1, c2, c3] t)).cell? ((⟨w.heap.size, 0, none⟩ : Addr).add j) = some u := by
  intro j u hu
  match j, hu with
  | 0, hu => simp at hu; subst hu; simp [Addr.add]
  | 1, hu => simp at hu; subst hu; simp [Addr.add]
  | 2, hu => simp at hu; subst hu; simp [Addr.add]
  | 3, hu => simp at hu; subst hu; simp [Addr.add]
theorem rall_long (l : List UInt8) (w : World) (hl : 1048576 < l.length) : Calls Tryz.prog 53 #[.string (str l)] w (AllEnd w l) := by
  have e1 := str_size l
  have hg : textG l = ⟨[], 2, 1048576⟩ := by unfold textG; rw [if_pos hl]
  have i1 : (1048576 : Int) < (l.length : Int) := by omega
  unfold AllEnd
  rw [hg]
  go_enter Tryz.func53, Tryz.ntmps53
  go_wp2
  exact bodyPost_ret (v := .tuple #[.slice none 0 0, .agg #[.int .i64 2, .int .i64 1048576]]) (by simp [results, Tryz.results53, go_sem]) rfl ⟨_, rfl, World.ownsRow_nil _ _ _ _, (Below.refl _ _).alloc (Nat.le_refl _) _⟩
set_option maxRecDepth 100000 in
set_option maxHeartbeats 4000000 in
theorem rall_short (l : List UInt8) (w : World) (hl : l.length ≤ 1048576) : Calls Tryz.prog 53 #[.string (str l)] w (AllEnd w l) := by
  have e1 := str_size l
  have i1 : decide ((1048576 : Int) < (l.length : Int)) = false := decide_eq_false (by omega)
  have i2 : ¬ ((1048576 : Int) < (l.length : Int)) := by omega
  have hlI : (l.length : Int) ≤ 1048576 := by omega
  have HG : Hid (textG l = allL 0 l) := by show textG l = _; unfold textG; rw [if_neg (by omega)]
  have HS0 : Hid (RSt w (.slice none 0 0) [] (w.alloc (.cells #[.int .i64 0, .int .i64 0] 33))) := by
    have hb : Below w.heap.size w (w.alloc (.cells #[.int .i64 0, .int .i64 0] 33)) := (Below.refl _ _).alloc (Nat.le_refl _) _
    refine ⟨World.ownsRow_nil _ _ _ _, ?_, hb⟩
    show (w.heap.push _)[w.heap.size]? = _
    rw [Array.getElem?_push, if_pos rfl]
  have HA0 : Hid (allL 0 l = (allL 0 (l.drop 0)).app []) := by show _ = _; rw [List.drop_zero, app_nil _ (fun h => allL_zero h)]
  go_enter Tryz.func53, Tryz.ntmps53
  go_wp2
  go_loopg [4, 5] l.length (fun gk v a wr => ∃ p ts, p ≤ l.length ∧ gk = l.length - p ∧ a = .int .i64 ((p : Nat) : Int) ∧ RSt w v ts wr ∧ ts.length ≤ p ∧ allL 0 l = (allL p (l.drop p)).app ts)
  case atStart => exact ⟨0, [], Nat.zero_le _, by omega, rfl, HS0.out, Nat.le_refl _, HA0.out⟩
  case round =>
    clear HS0 HA0
    obtain ⟨p, ts, hp, rfl, rfl, hst, hts, hall⟩ := hrel
    have HST := hidden hst
    have HALL := hidden hall
    clear hst hall
    by_cases hend : p = l.length
    · subst hend
      have j1 : ¬ ((l.length : Int) < (l.length : Int)) := by omega
      have HALL2 : Hid (textG l = ⟨ts ++ [⟨0, [], 0, (l.length : Int)⟩], 0, 0⟩) := by
        show _ = _
        have h3 := allL_end (p := l.length) (l := l.drop l.length) (by simp)
        rw [HG.out, HALL.out, h3, List.drop_length]
        rfl
      obtain ⟨i0, hi, hz0, hz1, hz2⟩ := info_parts Tryz.infoTK
      have HI := hidden hi
      have HI0 := hidden hz0
      have HI1 := hidden hz1
      have HI2 := hidden hz2
      clear hi hz0 hz1 hz2
      go_wp2_with (at_builtin; refine wpList_append_own _ rfl _ _ 87 rfl (w.heap.size + 1) 96 i0 (.agg #[.int .u8 0, .string ⟨#[]⟩, .int .i64 0, .int .i64 0]) 4 40 Tryz.underlying87 HI.out HI0.out HI1.out HI2.out rfl (by decide) _ ts.length (ts.flatMap tokC) rfl (HST.out.below ((Below.refl _ _).alloc (Nat.le_refl _) _)).owns ⟨wr.heap.size, 0, none⟩ 1 1 (tokC ⟨0, [], 0, (l.length : Int)⟩) rfl rfl (tok_news1 wr _ _ _ _ _) (tok_one _) (by unfold maxLen; omega) (by omega) (by have h1 := HST.out.bel.size; have h2 := (Array.getElem?_eq_some_iff.1 HST.out.fault).1; simp; omega) ?_; intro v' w8 hown hgrow _; have S8 : Hid (RSt w v' (ts ++ [⟨0, [], 0, (l.length : Int)⟩]) w8) := (HST.out.below ((Below.refl _ _).alloc (Nat.le_refl _) _)).app hown hgrow; obtain ⟨k0, k1, g0, g1, k2⟩ := two_cells S8.out.fault; clear hown hgrow)
      exact bodyPost_ret (v := .tuple #[v', .agg #[.int .i64 0, .int .i64 0]]) (by simp [results, Tryz.results53, go_sem, k0, k1]) rfl (by
        refine ⟨v', by rw [HALL2.out], ?_, (S8.out.bel.setCell (p := ⟨w.heap.size, 0, none⟩) (Nat.le_refl _) _).setCell (p := ⟨w.heap.size, 1, none⟩) (Nat.le_refl _) _⟩
        rw [HALL2.out]
        exact ownsRow_setCell_low (ownsRow_setCell_low (S8.out.owns.mono (by omega)) S8.out.owns (show w.heap.size < w.heap.size + 1 by omega)) S8.out.owns (show w.heap.size < w.heap.size + 1 by omega))
    · have hlt : p < l.length := by omega
      have j1 : (p : Int) < (l.length : Int) := by omega
      have gi := str_get l p (by rw [e1]; exact hlt)
      have e0 : by8 (l.drop p) 0 = by8 l p := by8_from l p 0
      have hdl : 0 < (l.drop p).length := by rw [List.length_drop]; omega
      by_cases hbl : blankB (by8 l p) = true
      · have HALL2 : Hid (allL 0 l = (allL (p + 1) (l.drop (p + 1))).app ts) := by
          show _ = _
          rw [HALL.out, allL_skip (skip_one hdl (by rw [e0]; exact hbl)), List.drop_drop]
        have hx : by8 l p = 32 ∨ by8 l p = 9 ∨ by8 l p = 13 ∨ by8 l p = 10 := by
          unfold blankB at hbl
          simp only [Bool.or_eq_true, decide_eq_true_eq] at hbl
          omega
        clear HALL hbl e0 hdl
        generalize by8 l p = x0 at *
        rcases hx with rfl | rfl | rfl | rfl
        all_goals
          go_wp2
          go_roundg (l.length - (p + 1))
          case measure => omega
          case rel => exact ⟨p + 1, ts, by omega, rfl, by go_num, HST.out, by omega, HALL2.out⟩
      · have hbf : blankB (by8 l p) = false := by simpa using hbl
        have hns : by8 l p ≠ 32 ∧ by8 l p ≠ 9 ∧ by8 l p ≠ 13 ∧ by8 l p ≠ 10 := by
          refine ⟨?_, ?_, ?_, ?_⟩ <;> (intro e; rw [e] at hbf; cases hbf)
        by_cases h35 : by8 l p = 35
        · obtain ⟨R, hR⟩ : ∃ R, rowN remB (l.drop p) = R := ⟨_, rfl⟩
          have HALL2 : Hid (allL 0 l = (allL (p + R) (l.drop (p + R))).app ts) := by
            show _ = _
            have h3 := skip_hash (l := l.drop p) (by rw [e0]; exact h35)
            rw [hR] at h3
            rw [HALL.out, allL_skip h3, List.drop_drop]
          have hR0 : 0 < R := by rw [← hR]; exact row_pos0 (by rw [e0, h35]; rfl) (by rw [e0, h35]; decide)
          have HRL : Hid (p + R ≤ l.length) := by have := rowN_le remB (l.drop p); rw [hR, List.length_drop] at this; show _ ≤ _; omega
          have HGO := hidden (fun q => row_goes (f := remB) (l := l) (p := p) (q := q) hR)
          have HEN := hidden (fun q => row_ends (f := remB) (l := l) (p := p) (q := q) hR)
          rw [h35] at gi
          clear hR HALL hbl hbf hns h35 e0 hdl
          go_wp2
          go_loopg [5] (l.length - p) (fun gm a wr' => ∃ q : Nat, p ≤ q ∧ q ≤ p + R ∧ gm = l.length - q ∧ a = .int .i64 (q : Int) ∧ wr' = wr)
          case atStart => exact ⟨p, Nat.le_refl _, by omega, rfl, rfl, rfl⟩
          case round =>
            obtain ⟨q, hpq, hqR, rfl, rfl, rfl⟩ := hrel
            have hRL := HRL.out
            by_cases hgo : q < l.length ∧ remB (by8 l q) = true
            · obtain ⟨hq, hw⟩ := hgo
              have j2 : (q : Int) < (l.length : Int) := by omega
              have gq := str_get l q (by rw [e1]; exact hq)
              have HN : Hid (q + 1 ≤ p + R) := HGO.out q hpq hqR hq hw
              have hne : by8 l q ≠ 10 := by intro e; rw [e] at hw; cases hw
              have hne2 : (by8 l q == 10) = false := by simpa using hne
              clear hw
              generalize by8 l q = y at *
              go_wp2
              go_roundg (l.length - (q + 1))
              case measure => omega
              case rel => exact ⟨q + 1, by omega, HN.out, rfl, by go_num, rfl⟩
            · have hqe : q = p + R := by
                by_cases hq : q < l.length
                · exact HEN.out q hpq hqR (by cases h : remB (by8 l q) with | true => exact absurd ⟨hq, h⟩ hgo | false => rfl)
                · omega
              have HQ := hidden hqe
              by_cases hq : q < l.length
              · have j2 : (q : Int) < (l.length : Int) := by omega
                have gq := str_get l q (by rw [e1]; exact hq)
                have hw' : remB (by8 l q) = false := by cases h : remB (by8 l q) with | true => exact absurd ⟨hq, h⟩ hgo | false => rfl
                have h10 : by8 l q = 10 := by
                  unfold remB at hw'
                  simpa using hw'
                rw [h10] at gq
                clear hw' hgo h10 hqe
                go_wp2
                go_roundg (l.length - (p + R))
                case measure => omega
                case rel => exact ⟨p + R, ts, HRL.out, rfl, by rw [HQ.out], HST.out, by omega, HALL2.out⟩
              · have j2 : ¬ ((q : Int) < (l.length : Int)) := by omega
                clear hgo hqe
                go_wp2
                go_roundg (l.length - (p + R))
                case measure => omega
                case rel => exact ⟨p + R, ts, HRL.out, rfl, by rw [HQ.out], HST.out, by omega, HALL2.out⟩
        · obtain ⟨n1, n2, n3, n4⟩ := hns
          have b1 : (by8 l p == 32) = false := by simpa using n1
          have b2 : (by8 l p == 9) = false := by simpa using n2
          have b3 : (by8 l p == 13) = false := by simpa using n3
          have b4 : (by8 l p == 10) = false := by simpa using n4
          have b5 : (by8 l p == 35) = false := by simpa using h35
          have hsk : skipN false (l.drop p) = 0 := skip_none (by rw [e0]; exact hbf) (by rw [e0]; exact h35)
          have e2 : (l.drop p).drop (skipN false (l.drop p)) = l.drop p := by rw [hsk, List.drop_zero]
          have hne : (l.drop p).drop (skipN false (l.drop p)) ≠ [] := by rw [e2]; intro e; rw [e] at hdl; simp at hdl
          have HZ : Hid (∀ W, Calls Tryz.prog 94 #[.string (str l), .int .i64 (p : Int)] W (RTok p (tokO (l.drop p)) W)) := fun W => rtoken_any l p W hlt hl
          clear hbl hbf hdl e0
          by_cases herr : (tokO (l.drop p)).err = 0
          · obtain ⟨hn, hn2, -⟩ := tok_some herr
            rw [List.length_drop] at hn2
            have HALL2 : Hid (allL 0 l = (allL (p + (tokO (l.drop p)).n) (l.drop (p + (tokO (l.drop p)).n))).app (ts ++ [{ (tokO (l.drop p)).tok with place := (p : Int) }])) := by
              show _ = _
              have h3 := allL_tok (p := p) hne (by rw [e2]; exact herr)
              rw [e2, hsk, Nat.add_zero, Nat.zero_add, List.drop_drop] at h3
              rw [HALL.out, h3, app_cons]
            clear HALL hne e2 hsk
            generalize by8 l p = x0 at *
            generalize tokO (l.drop p) = o at *
            obtain ⟨⟨so, tx, nm, pl⟩, er, n⟩ := o
            simp only at herr hn hn2 HALL2
            subst herr
            have HZ2 : Hid (∀ W, Calls Tryz.prog 94 #[.string (str l), .int .i64 (p : Int)] W fun e w' => e = .returned (.tuple #[.agg #[.int .u8 so, .string (str tx), .int .i64 nm, .int .i64 (p : Int)], .int .i64 ((p + n : Nat) : Int), .int .i64 0]) ∧ Below W.heap.size W w') := fun W => HZ.out W
            clear HZ
            obtain ⟨i0, hi, hz0, hz1, hz2⟩ := info_parts Tryz.infoTK
            have HI := hidden hi
            have HI0 := hidden hz0
            have HI1 := hidden hz1
            have HI2 := hidden hz2
            clear hi hz0 hz1 hz2
            obtain ⟨pn, hpn⟩ : ∃ pn : Nat, p + n = pn := ⟨_, rfl⟩
            rw [hpn] at HZ2 HALL2
            go_wp2_with (first
              | (at_builtin; refine wpList_append_own _ rfl _ _ 87 rfl (w.heap.size + 1) 96 i0 (.agg #[.int .u8 0, .string ⟨#[]⟩, .int .i64 0, .int .i64 0]) 4 40 Tryz.underlying87 HI.out HI0.out HI1.out HI2.out rfl (by decide) _ ts.length (ts.flatMap tokC) rfl (S5.out.below (below_two w5 _ _)).owns ⟨w5.heap.size + 1, 0, none⟩ 1 1 (tokC ⟨so, tx, nm, (p : Int)⟩) rfl rfl (tok_news w5 _ _ _ _ _ _) (tok_one _) (by unfold maxLen; omega) (by omega) (by have h1 := S5.out.bel.size; have h2 := (Array.getElem?_eq_some_iff.1 S5.out.fault).1; simp; omega) ?_; intro v' w8 hown hgrow _; have S8 : Hid (RSt w v' (ts ++ [⟨so, tx, nm, (p : Int)⟩]) w8) := (S5.out.below (below_two w5 _ _)).app hown hgrow; clear hown hgrow)
              | (go_at_call 94; (with_reducible refine (HZ2.out _).mono ?_); rintro e w5 ⟨rfl, hb5⟩; have S5 := hidden (HST.out.below hb5); clear hb5))
            go_roundg (l.length - pn)
            case measure => omega
            case rel => exact ⟨pn, _, by omega, rfl, rfl, S8.out, by simp; omega, HALL2.out⟩
          · have HALL2 : Hid (textG l = ⟨[], (tokO (l.drop p)).err, (p : Int)⟩) := by
              show _ = _
              have h3 := allL_err (p := p) hne (by rw [e2]; exact herr)
              rw [e2, hsk, Nat.add_zero] at h3
              rw [HG.out, HALL.out, h3]
              unfold Got.app
              rw [if_neg herr]
            clear HALL hne e2 hsk
            generalize by8 l p = x0 at *
            generalize tokO (l.drop p) = o at *
            obtain ⟨⟨so, tx, nm, pl⟩, er, n⟩ := o
            simp only at herr HALL2
            have HZ2 : Hid (∀ W, Calls Tryz.prog 94 #[.string (str l), .int .i64 (p : Int)] W fun e w' => e = .returned (.tuple #[.agg #[.int .u8 so, .string (str tx), .int .i64 nm, .int .i64 0], .int .i64 0, .int .i64 er]) ∧ Below W.heap.size W w') := fun W => (HZ.out W).mono fun e w' h => by
              unfold RTok at h
              simp only [herr, if_false] at h
              exact h
            clear HZ
            have herr' : (er == 0) = false := by simpa using herr
            have herr2 : (er != 0) = true := by simpa using herr
            go_wp2_with (go_at_call 94; (with_reducible refine (HZ2.out _).mono ?_); rintro e w5 ⟨rfl, hb5⟩; have S5 := hidden (HST.out.below hb5); obtain ⟨k0, k1, g0, g1, k2⟩ := two_cells (S5.out.below ((Below.refl w5.heap.size w5).alloc (Nat.le_refl _) (.cells #[.int .u8 so, .string (str tx), .int .i64 nm, .int .i64 0] 96))).fault; clear hb5)
            exact bodyPost_ret (v := .tuple #[.slice none 0 0, .agg #[.int .i64 er, .int .i64 (p : Int)]]) (by simp [results, Tryz.results53, go_sem, k0, k1]) rfl (by
              refine ⟨_, by rw [HALL2.out], ?_, ?_⟩
              · rw [HALL2.out]; exact World.ownsRow_nil _ _ _ _
              · exact ((S5.out.bel.alloc S5.out.bel.size _).setCell (p := ⟨w.heap.size, 0, none⟩) (Nat.le_refl _) _).setCell (p := ⟨w.heap.size, 1, none⟩) (Nat.le_refl _) _)
theorem rall_any (l : List UInt8) (w : World) : Calls Tryz.prog 53 #[.string (str l)] w (AllEnd w l) := by
  by_cases h : 1048576 < l.length
  · exact rall_long l w h
  · exact rall_short l w (by omega)
end Go.Proofs.YtolpelfdhcccnaaGreatDoor

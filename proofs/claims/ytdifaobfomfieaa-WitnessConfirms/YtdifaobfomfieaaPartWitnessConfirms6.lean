/- Texts of one chain, laid one behind the other. -/
import Derived.Test.YtdifaobfomfieaaPartWitnessConfirms5
import Derived.Deep.LoopGhost
import Derived.Deep.DeepCutAuto
import Derived.Test.YtdifaobfomfieaaPartWitnessConfirms1
namespace Go.Proofs.Ytdifaobfomfieaa
open Go.ChangeShapes Go.WideShapes Go.ChangeAt Go.RowKit
/-- A list that was lent: a row of its own with these numbers, four marks behind them, all in one array of just that size. -/
def Lend (base : Nat) (w : World) (g len : Nat) (zs : List Int) : Prop :=
  base ≤ g ∧ zs.length = len ∧ At w (some ⟨g, 0, none⟩) (zs ++ [-7770777, -7770777, -7770777, -7770777])
theorem nth_append_left {xs ys : List Int} {k : Nat} (h : k < xs.length) : nth (xs ++ ys) k = nth xs k := by
  unfold nth
  rw [List.getD_eq_getElem?_getD, List.getD_eq_getElem?_getD, List.getElem?_append_left h]
theorem nth_marks {xs : List Int} {k : Nat} (h : xs.length ≤ k) (h2 : k < xs.length + 4) : nth (xs ++ [-7770777, -7770777, -7770777, -7770777]) k = -7770777 := by
  unfold nth
  rw [List.getD_eq_getElem?_getD, List.getElem?_append_right h]
  have : k - xs.length < 4 := by omega
  match k - xs.length, this with
  | 0, _ => rfl
  | 1, _ => rfl
  | 2, _ => rfl
  | 3, _ => rfl
theorem Lend.cells {base : Nat} {w : World} {g len : Nat} {zs : List Int} (h : Lend base w g len zs) :
    (∀ k, k < len → w.cell? ⟨g, k, none⟩ = some (.int .i64 (nth zs k))) ∧ (∀ k, len ≤ k → k < len + 4 → w.cell? ⟨g, k, none⟩ = some (.int .i64 (-7770777))) := by
  obtain ⟨-, hl, hat⟩ := h
  rcases hat with h0 | ⟨b, off, e, hc⟩
  · have := congrArg List.length h0
    simp at this
  · cases e
    refine ⟨fun k hk => ?_, fun k h1 h2 => ?_⟩
    · have := hc k (by simp; omega)
      rwa [Nat.zero_add, nth_append_left (by omega)] at this
    · have := hc k (by simp; omega)
      rwa [Nat.zero_add, nth_marks (by omega) (by omega)] at this
theorem Lend.at {base : Nat} {w : World} {g len : Nat} {zs : List Int} (h : Lend base w g len zs) : At w (some ⟨g, 0, none⟩) zs := by
  refine Or.inr ⟨g, 0, rfl, fun k hk => ?_⟩
  rw [Nat.zero_add]
  exact h.cells.1 k (by have := h.2.1; omega)
theorem Lend.below {base : Nat} {w w' : World} {g len : Nat} {zs : List Int} (h : Lend base w g len zs) (hb : Below w.heap.size w w') : Lend base w' g len zs :=
  ⟨h.1, h.2.1, h.2.2.below hb⟩
set_option maxHeartbeats 400000 in
theorem same_any (a1 a2 : Option Addr) (zs : List Int) (len cap1 cap2 : Nat) (w : World) (hl : zs.length = len) (hm : len ≤ 4611686018427387904) (h1 : At w a1 zs) (h2 : At w a2 zs) :
    Calls Try.prog 11 #[.slice a1 len cap1, .slice a2 len cap2] w fun e w' => ∃ n : Nat, e = .returned (.bool true) ∧ w' = w.drewN n := by
  have hee : ((len : Int) != (len : Int)) = false := by simp
  rcases h1 with h | ⟨b1, off1, rfl, hc1⟩
  · subst h
    subst hl
    go_enter Try.func11, Try.ntmps11
    go_wp2
    go_loop [5] (fun i => i = .int .i64 0) (fun _ => 0)
    case atStart => exact rfl
    case round =>
      subst hrel
      go_wp2
      go_ret
      first | exact ⟨0, rfl, rfl⟩ | exact ⟨rfl, 0, rfl⟩
  · rcases h2 with h | ⟨b2, off2, rfl, hc2⟩
    · subst h
      subst hl
      clear hc1
      go_enter Try.func11, Try.ntmps11
      go_wp2
      go_loop [5] (fun i => i = .int .i64 0) (fun _ => 0)
      case atStart => exact rfl
      case round =>
        subst hrel
        go_wp2
        go_ret
        first | exact ⟨0, rfl, rfl⟩ | exact ⟨rfl, 0, rfl⟩
    · go_enter Try.func11, Try.ntmps11
      go_wp2
      go_loopw [5] (fun i wr => ∃ k n : Nat, k ≤ len ∧ wr = w.drewN n ∧ i = .int .i64 k) (fun i _ => len - (intOf i).toNat)
      case atStart => exact ⟨0, 0, Nat.zero_le _, rfl, rfl⟩
      case round =>
        obtain ⟨k, n, hk, rfl, rfl⟩ := hrel
        by_cases hlt : k < len
        · have g1 := hc1 k (by omega)
          have g2 := hc2 k (by omega)
          have hki : (k : Int) < (len : Int) := by omega
          have hnn : (nth zs k != nth zs k) = false := by simp
          go_wp2
          go_quiet (fail)
          go_wp2
          go_roundw
          case rel => exact ⟨k + 1, n + nq, by omega, rfl, by go_num⟩
          case measure => simp [intOf]; omega
        · go_wp2
          go_ret
          first | exact ⟨n, rfl, rfl⟩ | exact ⟨rfl, n, rfl⟩
/-- A row of digits, as a walk is told of it. -/
structure Row (w : World) (a : Option Addr) (len cap : Nat) (ds : List Int) : Prop where
  size : ds.length = len
  lies : At w a ds
  none : a = Option.none → len = 0 ∧ cap = 0
  room : len ≤ cap
  short : len ≤ 1000000000
  dig : Dig ds
theorem Row.below {w w' : World} {a : Option Addr} {len cap : Nat} {ds : List Int} (h : Row w a len cap ds) (hb : Below w.heap.size w w') : Row w' a len cap ds :=
  ⟨h.size, h.lies.below hb, h.none, h.room, h.short, h.dig⟩
theorem At.take {w : World} {a : Option Addr} {ds : List Int} (h : At w a ds) (n : Nat) : At w a (ds.take n) := by
  rcases h with rfl | ⟨b, off, rfl, hc⟩
  · exact Or.inl (by simp)
  · refine Or.inr ⟨b, off, rfl, fun k hk => ?_⟩
    rw [List.length_take] at hk
    rw [nth_take (by omega)]
    exact hc k (by omega)
/-- Noughts at the high end are left out. -/
def Trimmed (w : World) (a : Option Addr) (cap : Nat) (ds : List Int) (e : Ending) (w' : World) : Prop :=
  ∃ n, e = .returned (.slice a n cap) ∧ w = w' ∧ Row w a n cap (ds.take n) ∧ val (ds.take n) = val ds ∧ Norm (ds.take n)
theorem trimmed_mk {w : World} {a : Option Addr} {len cap n : Nat} {ds : List Int} (h : Row w a len cap ds) (hn : n ≤ len) (hz : ∀ k, n ≤ k → nth ds k = 0) (hl : n ≠ 0 → nth ds (n - 1) ≠ 0) :
    Row w a n cap (ds.take n) ∧ val (ds.take n) = val ds ∧ Norm (ds.take n) := by
  have hs := h.size
  have hlen : (ds.take n).length = n := by rw [List.length_take]; omega
  refine ⟨⟨hlen, h.lies.take n, (fun e => ?_), by have := h.room; omega, by have := h.short; omega, h.dig.take n⟩, val_take hz, fun hne => ?_⟩
  · obtain ⟨h1, h2⟩ := h.none e
    exact ⟨by omega, h2⟩
  · have : n ≠ 0 := by rintro rfl; exact hne (by simp)
    rw [hlen, nth_take (by omega)]
    exact hl this
set_option maxHeartbeats 400000 in
theorem trim_any (a : Option Addr) (len cap : Nat) (ds : List Int) (w : World) (h : Row w a len cap ds) :
    Calls Try.prog 43 #[.slice a len cap] w (Trimmed w a cap ds) := by
  have hs := h.size
  have hsh := h.short
  have hrm := h.room
  rcases h.lies with h0 | ⟨b, off, rfl, hc⟩
  · subst h0
    subst hs
    cases a with
    | none =>
      obtain ⟨-, rfl⟩ := h.none rfl
      go_enter Try.func43, Try.ntmps43
      go_wp2
      go_loop [3] (fun i => i = .int .i64 0) (fun _ => 0)
      case atStart => exact rfl
      case round =>
        subst hrel
        go_wp2
        go_ret
        exact ⟨0, rfl, rfl, h, rfl, fun h => absurd rfl h⟩
    | some x =>
      go_enter Try.func43, Try.ntmps43
      go_wp2
      go_loop [3] (fun i => i = .int .i64 0) (fun _ => 0)
      case atStart => exact rfl
      case round =>
        subst hrel
        go_wp2
        go_ret
        exact ⟨0, rfl, rfl, h, rfl, fun h => absurd rfl h⟩
  · have H : Hid (Row w (some ⟨b, off, none⟩) len cap ds) := h
    clear h
    go_enter Try.func43, Try.ntmps43
    go_wp2
    go_loop [3] (fun i => ∃ k : Nat, k ≤ len ∧ i = .int .i64 k ∧ ∀ j, k ≤ j → nth ds j = 0) (fun i => (intOf i).toNat)
    case atStart => exact ⟨len, Nat.le_refl _, rfl, fun j hj => nth_over (by omega)⟩
    case round =>
      obtain ⟨k, hk, rfl, hz⟩ := hrel
      have HZ : Hid (∀ j, k ≤ j → nth ds j = 0) := hz
      clear hz
      by_cases h0 : k = 0
      · subst h0
        go_wp2
        go_ret
        obtain ⟨r1, r2, r3⟩ := trimmed_mk H.out (Nat.zero_le _) HZ.out (fun h => absurd rfl h)
        exact ⟨0, rfl, rfl, r1, r2, r3⟩
      · obtain ⟨m, rfl⟩ : ∃ m, k = m + 1 := ⟨k - 1, by omega⟩
        have hcm := hc m (by omega)
        by_cases hd : nth ds m = 0
        · have q1 : (nth ds m == 0) = true := by simpa using hd
          have HD : Hid (nth ds m = 0) := hd
          clear hd
          go_wp2
          go_round
          case rel => exact ⟨m, by omega, by go_num, fun j hj => if e : j = m then e ▸ HD.out else HZ.out j (by omega)⟩
          case measure => simp [intOf]
        · have q1 : (nth ds m == 0) = false := by simpa using hd
          go_wp2
          go_ret
          obtain ⟨r1, r2, r3⟩ := trimmed_mk H.out hk HZ.out (fun _ => hd)
          exact ⟨m + 1, rfl, rfl, r1, r2, r3⟩
/-- Comparing two rows of digits whose highest ones are not 0. -/
def Compared (w : World) (x y : Int) (e : Ending) (w' : World) : Prop := ∃ n : Nat, e = .returned (.int .i64 (cmpI x y)) ∧ w' = w.drewN n
set_option maxHeartbeats 1000000 in
theorem size_any (a1 a2 : Option Addr) (len1 len2 cap1 cap2 : Nat) (xs ys : List Int) (w : World) (h1 : Row w a1 len1 cap1 xs) (h2 : Row w a2 len2 cap2 ys) (n1 : Norm xs) (n2 : Norm ys) :
    Calls Try.prog 42 #[.slice a1 len1 cap1, .slice a2 len2 cap2] w (Compared w (val xs) (val ys)) := by
  have s1 := h1.short
  have s2 := h2.short
  by_cases hne : len1 = len2
  · subst hne
    have HL : Hid (cmpL xs ys = cmpI (val xs) (val ys)) := cmpL_val h1.dig h2.dig (by rw [h1.size, h2.size])
    have hq : ((len1 : Int) != (len1 : Int)) = false := by simp
    have z1 := h1.size
    have z2 := h2.size
    rcases h1.lies with e | ⟨b1, off1, rfl, hc1⟩
    · subst e
      have e0 : len1 = 0 := z1.symm
      subst e0
      have e2 : ys = [] := List.eq_nil_of_length_eq_zero z2
      subst e2
      clear z1 z2 h1 h2
      go_enter Try.func42, Try.ntmps42
      go_wp2
      go_loop [5] (fun i => i = .int .i64 (-1)) (fun _ => 0)
      case atStart => exact rfl
      case round =>
        subst hrel
        go_wp2
        go_ret
        exact ⟨0, rfl, rfl⟩
    · rcases h2.lies with e | ⟨b2, off2, rfl, hc2⟩
      · subst e
        have e0 : len1 = 0 := z2.symm
        subst e0
        have e2 : xs = [] := List.eq_nil_of_length_eq_zero z1
        subst e2
        clear z1 z2 h1 h2 hc1
        go_enter Try.func42, Try.ntmps42
        go_wp2
        go_loop [5] (fun i => i = .int .i64 (-1)) (fun _ => 0)
        case atStart => exact rfl
        case round =>
          subst hrel
          go_wp2
          go_ret
          exact ⟨0, rfl, rfl⟩
      · clear h1 h2
        go_enter Try.func42, Try.ntmps42
        go_wp2
        go_loopw [5] (fun i wr => ∃ k n : Nat, k ≤ len1 ∧ wr = w.drewN n ∧ i = .int .i64 ((k : Int) - 1) ∧ cmpL (xs.drop k) (ys.drop k) = 0) (fun i _ => (intOf i + 1).toNat)
        case atStart => exact ⟨len1, 0, Nat.le_refl _, rfl, rfl, by rw [drop_end xs len1 (by omega), drop_end ys len1 (by omega)]; rfl⟩
        case round =>
          obtain ⟨k, n, hk, rfl, rfl, hz⟩ := hrel
          have HZ : Hid (cmpL (xs.drop k) (ys.drop k) = 0) := hz
          clear hz
          by_cases h0 : k = 0
          · subst h0
            go_wp2
            go_ret
            have := HZ.out
            rw [List.drop_zero, List.drop_zero, HL.out] at this
            exact ⟨n, ret_one this.symm, rfl⟩
          · obtain ⟨m, rfl⟩ : ∃ m, k = m + 1 := ⟨k - 1, by omega⟩
            have g1 := hc1 m (by omega)
            have g2 := hc2 m (by omega)
            have em : ((m + 1 : Nat) : Int) - 1 = (m : Int) := by omega
            rw [em]
            have hmi : (m : Int) < (len1 : Int) := by omega
            have HM : Hid (cmpL (xs.drop m) (ys.drop m) = cmpI (nth xs m) (nth ys m)) := cmpL_step m (by omega) (by omega) HZ.out
            have HDr : Hid (cmpL (xs.drop m) (ys.drop m) ≠ 0 → cmpL xs ys = cmpL (xs.drop m) (ys.drop m)) := cmpL_drop m (by omega)
            rcases Int.lt_trichotomy (nth xs m) (nth ys m) with hx | hx | hx
            · go_wp2
              go_quiet (fail)
              go_wp2
              go_ret
              have e := HM.out
              rw [cmpI_lt hx] at e
              have e2 := HDr.out (by rw [e]; decide)
              rw [HL.out, e] at e2
              exact ⟨n + nq, ret_one e2.symm, World.drewN_drewN _ _ _⟩
            · have hx1 : ¬ nth xs m < nth ys m := by omega
              have hx2 : ¬ nth ys m < nth xs m := by omega
              have HX : Hid (nth xs m = nth ys m) := hx
              clear hx
              go_wp2
              go_quiet (fail)
              go_wp2
              go_quiet (fail)
              go_wp2
              go_roundw
              case rel => exact ⟨m, _, by omega, rfl, by go_num, by rw [HM.out]; exact cmpI_eq HX.out⟩
              case measure => simp [intOf]
            · have hx1 : ¬ nth xs m < nth ys m := by omega
              go_wp2
              go_quiet (fail)
              go_wp2
              go_quiet (fail)
              go_wp2
              go_ret
              have e := HM.out
              rw [cmpI_gt hx] at e
              have e2 := HDr.out (by rw [e]; decide)
              rw [HL.out, e] at e2
              exact ⟨_, ret_one e2.symm, (World.drewN_drewN _ _ _).trans (World.drewN_drewN _ _ _)⟩
  · have hq : ((len1 : Int) != (len2 : Int)) = true := by simp; omega
    by_cases hlt : len1 < len2
    · have HV : Hid (cmpI (val xs) (val ys) = -1) := cmpI_lt (val_longer h1.dig h2.dig n2 (by rw [h1.size, h2.size]; exact hlt))
      clear h1 h2
      go_enter Try.func42, Try.ntmps42
      go_wp2
      go_ret
      exact ⟨0, ret_one HV.out.symm, rfl⟩
    · have HV : Hid (cmpI (val xs) (val ys) = 1) := cmpI_gt (val_longer h2.dig h1.dig n1 (by rw [h1.size, h2.size]; omega))
      clear h1 h2
      go_enter Try.func42, Try.ntmps42
      go_wp2
      go_ret
      exact ⟨0, ret_one HV.out.symm, rfl⟩
theorem one_new (wr : World) (s : Int) (t : TypeId) : ∀ j u, [Value.int .i64 s][j]? = some u → (wr.alloc (.cells #[.int .i64 s] t)).cell? ((⟨wr.heap.size, 0, none⟩ : Addr).add j) = some u := by
  intro j u hj
  match j, hj with
  | 0, hj => simp at hj; subst hj; simp [Addr.add]
theorem one_cell (s : Int) : ∀ u ∈ [Value.int .i64 s], u.oneCell' = true := by
  intro u hu; simp at hu; subst hu; rfl
end Go.Proofs.Ytdifaobfomfieaa

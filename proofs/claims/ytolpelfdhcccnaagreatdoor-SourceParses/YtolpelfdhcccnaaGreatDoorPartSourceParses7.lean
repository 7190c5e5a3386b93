/- Texts of one chain, laid one behind the other. -/
import Derived.Test.YtolpelfdhcccnaaGreatDoorPartSourceParses6
import Derived.Deep.LoopGhost
import Derived.Deep.DeepCutAuto
import Derived.Test.YtolpelfdhcccnaaGreatDoorPartSourceParses2
namespace Go.Proofs.YtolpelfdhcccnaaGreatDoor
open Go.ChangeShapes Go.WideShapes Go.ChangeAt Go.RowKit
/-- A list that was lent: a row of its own with these numbers, four marks behind them, all in one array of just that size. -/
def Lend (base : Nat) (w : World) (g len : Nat) (zs : List Int) : Prop :=
  base ≤ g ∧ zs.length = len ∧ At w (some ⟨g, 0, none⟩) (zs ++ [-7770777, -7770777, -7770777, -7770777])
theorem nth_append_left {xs ys : List Int} {k : Nat} (h : k < xs.length) : nth (xs ++ ys) k = nth xs k := by
  unfold nth
  rw [List.getD_eq_getElem?_getD, List.getD_eq_getElem?_getD, List.getElem?_append_left h]
theorem nth_marks {xs : List Int} {k : Nat} (h : xs.length ≤ k) (h2 : k < xs.length + 4) : nth (xs ++ [-7770777, -7770777, -7770777, -7770777]) k = -7770777 := by
  unfold nth
  rw [List.getD_eq_getElem?_getD, List.getElem?_append_right h]
  have : k - xs.length < 4 := by omega
  match k - xs.length, this with
  | 0, _ => rfl
  | 1, _ => rfl
  | 2, _ => rfl
  | 3, _ => rfl
theorem Lend.cells {base : Nat} {w : World} {g len : Nat} {zs : List Int} (h : Lend base w g len zs) :
    (∀ k, k < len → w.cell? ⟨g, k, none⟩ = some (.int .i64 (nth zs k))) ∧ (∀ k, len ≤ k → k < len + 4 → w.cell? ⟨g, k, none⟩ = some (.int .i64 (-7770777))) := by
  obtain ⟨-, hl, hat⟩ := h
  rcases hat with h0 | ⟨b, off, e, hc⟩
  · have := congrArg List.length h0
    simp at this
  · cases e
    refine ⟨fun k hk => ?_, fun k h1 h2 => ?_⟩
    · have := hc k (by simp; omega)
      rwa [Nat.zero_add, nth_append_left (by omega)] at this
    · have := hc k (by simp; omega)
      rwa [Nat.zero_add, nth_marks (by omega) (by omega)] at this
theorem Lend.at {base : Nat} {w : World} {g len : Nat} {zs : List Int} (h : Lend base w g len zs) : At w (some ⟨g, 0, none⟩) zs := by
  refine Or.inr ⟨g, 0, rfl, fun k hk => ?_⟩
  rw [Nat.zero_add]
  exact h.cells.1 k (by have := h.2.1; omega)
theorem Lend.below {base : Nat} {w w' : World} {g len : Nat} {zs : List Int} (h : Lend base w g len zs) (hb : Below w.heap.size w w') : Lend base w' g len zs :=
  ⟨h.1, h.2.1, h.2.2.below hb⟩
set_option maxHeartbeats 400000 in
theorem same_any (a1 a2 : Option Addr) (zs : List Int) (len cap1 cap2 : Nat) (w : World) (hl : zs.length = len) (hm : len ≤ 4611686018427387904) (h1 : At w a1 zs) (h2 : At w a2 zs) :
    Calls Tryz.prog 28 #[.slice a1 len cap1, .slice a2 len cap2] w fun e w' => ∃ n : Nat, e = .returned (.bool true) ∧ w' = w.drewN n := by
  have hee : ((len : Int) != (len : Int)) = false := by simp
  rcases h1 with h | ⟨b1, off1, rfl, hc1⟩
  · subst h
    subst hl
    go_enter Tryz.func28, Tryz.ntmps28
    go_wp2
    go_loop [5] (fun i => i = .int .i64 0) (fun _ => 0)
    case atStart => exact rfl
    case round =>
      subst hrel
      go_wp2
      go_ret
      first | exact ⟨0, rfl, rfl⟩ | exact ⟨rfl, 0, rfl⟩
  · rcases h2 with h | ⟨b2, off2, rfl, hc2⟩
    · subst h
      subst hl
      clear hc1
      go_enter Tryz.func28, Tryz.ntmps28
      go_wp2
      go_loop [5] (fun i => i = .int .i64 0) (fun _ => 0)
      case atStart => exact rfl
      case round =>
        subst hrel
        go_wp2
        go_ret
        first | exact ⟨0, rfl, rfl⟩ | exact ⟨rfl, 0, rfl⟩
    · go_enter Tryz.func28, Tryz.ntmps28
      go_wp2
      go_loopw [5] (fun i wr => ∃ k n : Nat, k ≤ len ∧ wr = w.drewN n ∧ i = .int .i64 k) (fun i _ => len - (intOf i).toNat)
      case atStart => exact ⟨0, 0, Nat.zero_le _, rfl, rfl⟩
      case round =>
        obtain ⟨k, n, hk, rfl, rfl⟩ := hrel
        by_cases hlt : k < len
        · have g1 := hc1 k (by omega)
          have g2 := hc2 k (by omega)
          have hki : (k : Int) < (len : Int) := by omega
          have hnn : (nth zs k != nth zs k) = false := by simp
          go_wp2
          go_quiet (fail)
          go_wp2
          go_roundw
          case rel => exact ⟨k + 1, n + nq, by omega, rfl, by go_num⟩
          case measure => simp [intOf]; omega
        · go_wp2
          go_ret
          first | exact ⟨n, rfl, rfl⟩ | exact ⟨rfl, n, rfl⟩
/-- A row of digits, as a walk is told of it. -/
structure Row (w : World) (a : Option Addr) (len cap : Nat) (ds : List Int) : Prop where
  size : ds.length = len
  lies : At w a ds
  none : a = Option.none → len = 0 ∧ cap = 0
  room : len ≤ cap
  short : len ≤ 1000000000
  dig : Dig ds
theorem Row.below {w w' : World} {a : Option Addr} {len cap : Nat} {ds : List Int} (h : Row w a len cap ds) (hb : Below w.heap.size w w') : Row w' a len cap ds :=
  ⟨h.size, h.lies.below hb, h.none, h.room, h.short, h.dig⟩
theorem At.take {w : World} {a : Option Addr} {ds : List Int} (h : At w a ds) (n : Nat) : At w a (ds.take n) := by
  rcases h with rfl | ⟨b, off, rfl, hc⟩
  · exact Or.inl (by simp)
  · refine Or.inr ⟨b, off, rfl, fun k hk => ?_⟩
    rw [List.length_take] at hk
    rw [nth_take (by omega)]
    exact hc k (by omega)
/-- Noughts at the high end are left out. -/
def Trimmed (w : World) (a : Option Addr) (cap : Nat) (ds : List Int) (e : Ending) (w' : World) : Prop :=
  ∃ n, e = .returned (.slice a n cap) ∧ w = w' ∧ Row w a n cap (ds.take n) ∧ val (ds.take n) = val ds ∧ Norm (ds.take n)
theorem trimmed_mk {w : World} {a : Option Addr} {len cap n : Nat} {ds : List Int} (h : Row w a len cap ds) (hn : n ≤ len) (hz : ∀ k, n ≤ k → nth ds k = 0) (hl : n ≠ 0 → nth ds (n - 1) ≠ 0) :
    Row w a n cap (ds.take n) ∧ val (ds.take n) = val ds ∧ Norm (ds.take n) := by
  have hs := h.size
  have hlen : (ds.take n).length = n := by rw [List.length_take]; omega
  refine ⟨⟨hlen, h.lies.take n, (fun e => ?_), by have := h.room; omega, by have := h.short; omega, h.dig.take n⟩, val_take hz, fun hne => ?_⟩
  · obtain ⟨h1, h2⟩ := h.none e
    exact ⟨by omega, h2⟩
  · have : n ≠ 0 := by rintro rfl; exact hne (by simp)
    rw [hlen, nth_take (by omega)]
    exact hl this
set_option maxHeartbeats 400000 in
theorem trim_any (a : Option Addr) (len cap : Nat) (ds : List Int) (w : World) (h : Row w a len cap ds) :
    Calls Tryz.prog 184 #[.slice a len cap] w (Trimmed w a cap ds) := by
  have hs := h.size
  have hsh := h.short
  have hrm := h.room
  rcases h.lies with h0 | ⟨b, off, rfl, hc⟩
  · subst h0
    subst hs
    cases a with
    | none =>
      obtain ⟨-, rfl⟩ := h.none rfl
      go_enter Tryz.func184, Tryz.ntmps184
      go_wp2
      go_loop [3] (fun i => i = .int .i64 0) (fun _ => 0)
      case atStart => exact rfl
      case round =>
        subst hrel
        go_wp2
        go_ret
        exact ⟨0, rfl, rfl, h, rfl, fun h => absurd rfl h⟩
    | some x =>
      go_enter Tryz.func184, Tryz.ntmps184
      go_wp2
      go_loop [3] (fun i => i = .int .i64 0) (fun _ => 0)
      case atStart => exact rfl
      case round =>
        subst hrel
        go_wp2
        go_ret
        exact ⟨0, rfl, rfl, h, rfl, fun h => absurd rfl h⟩
  · have H : Hid (Row w (some ⟨b, off, none⟩) len cap ds) := h
    clear h
    go_enter Tryz.func184, Tryz.ntmps184
    go_wp2
    go_loop [3] (fun i => ∃ k : Nat, k ≤ len ∧ i = .int .i64 k ∧ ∀ j, k ≤ j → nth ds j = 0) (fun i => (intOf i).toNat)
    case atStart => exact ⟨len, Nat.le_refl _, rfl, fun j hj => nth_over (by omega)⟩
    case round =>
      obtain ⟨k, hk, rfl, hz⟩ := hrel
      have HZ : Hid (∀ j, k ≤ j → nth ds j = 0) := hz
      clear hz
      by_cases h0 : k = 0
      · subst h0
        go_wp2
        go_ret
        obtain ⟨r1, r2, r3⟩ := trimmed_mk H.out (Nat.zero_le _) HZ.out (fun h => absurd rfl h)
        exact ⟨0, rfl, rfl, r1, r2, r3⟩
      · obtain ⟨m, rfl⟩ : ∃ m, k = m + 1 := ⟨k - 1, by omega⟩
        have hcm := hc m (by omega)
        by_cases hd : nth ds m = 0
        · have q1 : (nth ds m == 0) = true := by simpa using hd
          have HD : Hid (nth ds m = 0) := hd
          clear hd
          go_wp2
          go_round
          case rel => exact ⟨m, by omega, by go_num, fun j hj => if e : j = m then e ▸ HD.out else HZ.out j (by omega)⟩
          case measure => simp [intOf]
        · have q1 : (nth ds m == 0) = false := by simpa using hd
          go_wp2
          go_ret
          obtain ⟨r1, r2, r3⟩ := trimmed_mk H.out hk HZ.out (fun _ => hd)
          exact ⟨m + 1, rfl, rfl, r1, r2, r3⟩
/-- Comparing two rows of digits whose highest ones are not 0. -/
def Compared (w : World) (x y : Int) (e : Ending) (w' : World) : Prop := ∃ n : Nat, e = .returned (.int .i64 (cmpI x y)) ∧ w' = w.drewN n
set_option maxHeartbeats 1000000 in
theorem size_any (a1 a2 : Option Addr) (len1 len2 cap1 cap2 : Nat) (xs ys : List Int) (w : World) (h1 : Row w a1 len1 cap1 xs) (h2 : Row w a2 len2 cap2 ys) (n1 : Norm xs) (n2 : Norm ys) :
    Calls Tryz.prog 182 #[.slice a1 len1 cap1, .slice a2 len2 cap2] w (Compared w (val xs) (val ys)) := by
  have s1 := h1.short
  have s2 := h2.short
  by_cases hne : len1 = len2
  · subst hne
    have HL : Hid (cmpL xs ys = cmpI (val xs) (val ys)) := cmpL_val h1.dig h2.dig (by rw [h1.size, h2.size])
    have hq : ((len1 : Int) != (len1 : Int)) = false := by simp
    have z1 := h1.size
    have z2 := h2.size
    rcases h1.lies with e | ⟨b1, off1, rfl, hc1⟩
    · subst e
      have e0 : len1 = 0 := z1.symm
      subst e0
      have e2 : ys = [] := List.eq_nil_of_length_eq_zero z2
      subst e2
      clear z1 z2 h1 h2
      go_enter Tryz.func182, Tryz.ntmps182
      go_wp2
      go_loop [5] (fun i => i = .int .i64 (-1)) (fun _ => 0)
      case atStart => exact rfl
      case round =>
        subst hrel
        go_wp2
        go_ret
        exact ⟨0, rfl, rfl⟩
    · rcases h2.lies with e | ⟨b2, off2, rfl, hc2⟩
      · subst e
        have e0 : len1 = 0 := z2.symm
        subst e0
        have e2 : xs = [] := List.eq_nil_of_length_eq_zero z1
        subst e2
        clear z1 z2 h1 h2 hc1
        go_enter Tryz.func182, Tryz.ntmps182
        go_wp2
        go_loop [5] (fun i => i = .int .i64 (-1)) (fun _ => 0)
        case atStart => exact rfl
        case round =>
          subst hrel
          go_wp2
          go_ret
          exact ⟨0, rfl, rfl⟩
      · clear h1 h2
        go_enter Tryz.func182, Tryz.ntmps182
        go_wp2
        go_loopw [5] (fun i wr => ∃ k n : Nat, k ≤ len1 ∧ wr = w.drewN n ∧ i = .int .i64 ((k : Int) - 1) ∧ cmpL (xs.drop k) (ys.drop k) = 0) (fun i _ => (intOf i + 1).toNat)
        case atStart => exact ⟨len1, 0, Nat.le_refl _, rfl, rfl, by rw [drop_end xs len1 (by omega), drop_end ys len1 (by omega)]; rfl⟩
        case round =>
          obtain ⟨k, n, hk, rfl, rfl, hz⟩ := hrel
          have HZ : Hid (cmpL (xs.drop k) (ys.drop k) = 0) := hz
          clear hz
          by_cases h0 : k = 0
          · subst h0
            go_wp2
            go_ret
            have := HZ.out
            rw [List.drop_zero, List.drop_zero, HL.out] at this
            exact ⟨n, ret_one this.symm, rfl⟩
          · obtain ⟨m, rfl⟩ : ∃ m, k = m + 1 := ⟨k - 1, by omega⟩
            have g1 := hc1 m (by omega)
            have g2 := hc2 m (by omega)
            have em : ((m + 1 : Nat) : Int) - 1 = (m : Int) := by omega
            rw [em]
            have hmi : (m : Int) < (len1 : Int) := by omega
            have HM : Hid (cmpL (xs.drop m) (ys.drop m) = cmpI (nth xs m) (nth ys m)) := cmpL_step m (by omega) (by omega) HZ.out
            have HDr : Hid (cmpL (xs.drop m) (ys.drop m) ≠ 0 → cmpL xs ys = cmpL (xs.drop m) (ys.drop m)) := cmpL_drop m (by omega)
            rcases Int.lt_trichotomy (nth xs m) (nth ys m) with hx | hx | hx
            · go_wp2
              go_quiet (fail)
              go_wp2
              go_ret
              have e := HM.out
              rw [cmpI_lt hx] at e
              have e2 := HDr.out (by rw [e]; decide)
              rw [HL.out, e] at e2
              exact ⟨n + nq, ret_one e2.symm, World.drewN_drewN _ _ _⟩
            · have hx1 : ¬ nth xs m < nth ys m := by omega
              have hx2 : ¬ nth ys m < nth xs m := by omega
              have HX : Hid (nth xs m = nth ys m) := hx
              clear hx
              go_wp2
              go_quiet (fail)
              go_wp2
              go_quiet (fail)
              go_wp2
              go_roundw
              case rel => exact ⟨m, _, by omega, rfl, by go_num, by rw [HM.out]; exact cmpI_eq HX.out⟩
              case measure => simp [intOf]
            · have hx1 : ¬ nth xs m < nth ys m := by omega
              go_wp2
              go_quiet (fail)
              go_wp2
              go_quiet (fail)
              go_wp2
              go_ret
              have e := HM.out
              rw [cmpI_gt hx] at e
              have e2 := HDr.out (by rw [e]; decide)
              rw [HL.out, e] at e2
              exact ⟨_, ret_one e2.symm, (World.drewN_drewN _ _ _).trans (World.drewN_drewN _ _ _)⟩
  · have hq : ((len1 : Int) != (len2 : Int)) = true := by simp; omega
    by_cases hlt : len1 < len2
    · have HV : Hid (cmpI (val xs) (val ys) = -1) := cmpI_lt (val_longer h1.dig h2.dig n2 (by rw [h1.size, h2.size]; exact hlt))
      clear h1 h2
      go_enter Tryz.func182, Tryz.ntmps182
      go_wp2
      go_ret
      exact ⟨0, ret_one HV.out.symm, rfl⟩
    · have HV : Hid (cmpI (val xs) (val ys) = 1) := cmpI_gt (val_longer h2.dig h1.dig n1 (by rw [h1.size, h2.size]; omega))
      clear h1 h2
      go_enter Tryz.func182, Tryz.ntmps182
      go_wp2
      go_ret
      exact ⟨0, ret_one HV.out.symm, rfl⟩
/-- A call's end: a new row of digits, the highest not 0, worth x. -/
def MadeRow (w : World) (x : Int) (bound : Nat) (e : Ending) (w' : World) : Prop :=
  ∃ a n cap ds, e = .returned (.slice a n cap) ∧ Row w' a n cap ds ∧ Norm ds ∧ val ds = x ∧ Below w.heap.size w w' ∧ n ≤ bound
theorem one_new (wr : World) (s : Int) (t : TypeId) : ∀ j u, [Value.int .i64 s][j]? = some u → (wr.alloc (.cells #[.int .i64 s] t)).cell? ((⟨wr.heap.size, 0, none⟩ : Addr).add j) = some u := by
  intro j u hj
  match j, hj with
  | 0, hj => simp at hj; subst hj; simp [Addr.add]
theorem one_cell (s : Int) : ∀ u ∈ [Value.int .i64 s], u.oneCell' = true := by
  intro u hu; simp at hu; subst hu; rfl
theorem own_block {w : World} {base n : Nat} {v : Value} {xs : List Value} (h : w.ownsRow base 3 1 v n xs) : ∀ k, v.ownBlock = some k → base ≤ k := by
  intro k hk
  rcases h.2 with ⟨hv, -⟩ | ⟨g, cap, cur, hv, hg, -⟩
  · rw [hv] at hk; cases hk
  · rw [hv] at hk; cases hk; exact hg
/-- What one round of a loop that appends a digit leaves. -/
theorem grown_row {w wr w1 : World} {v v' : Value} {os : List Int} {s : Int} {i : Nat} (hown' : w1.ownsRow w.heap.size 3 1 v' (i + 1) (os.map (Value.int .i64) ++ [.int .i64 s])) (hgrow : (wr.alloc (.cells #[.int .i64 s] 3)).grownBy w1 v.ownBlock)
    (hown : wr.ownsRow w.heap.size 3 1 v i (os.map (Value.int .i64))) (hbel : Below w.heap.size w wr) :
    w1.ownsRow w.heap.size 3 1 v' (i + 1) ((os ++ [s]).map (Value.int .i64)) ∧ Below w.heap.size w w1 :=
  ⟨by rw [List.map_append]; exact hown', (hbel.alloc hbel.size _).grown hgrow (by have := hbel.size; simp; omega) (own_block hown)⟩
set_option maxRecDepth 100000 in
set_option maxHeartbeats 2000000 in
theorem addRow_any (a1 a2 : Option Addr) (len1 len2 cap1 cap2 : Nat) (xs ys : List Int) (w : World) (h1 : Row w a1 len1 cap1 xs) (h2 : Row w a2 len2 cap2 ys) (hsum : len1 + len2 < 1000000000) :
    Calls Tryz.prog 181 #[.slice a1 len1 cap1, .slice a2 len2 cap2] w (MadeRow w (val xs + val ys) (len1 + len2 + 1)) := by
  obtain ⟨i0, hi, hz0, hz1, hz2⟩ := info_parts Tryz.info3
  have z1 := h1.size
  have z2 := h2.size
  have hT : (addL 0 xs ys).length ≤ len1 + len2 + 1 := by have := addL_len (xs := xs) (ys := ys) (c := 0); omega
  have HV : Hid (val (addL 0 xs ys) = val xs + val ys ∧ Dig (addL 0 xs ys)) := by
    have := addL_val h1.dig h2.dig (c := 0) (by decide)
    exact ⟨by rw [this.1]; omega, this.2⟩
  have HR1 : Hid (Row w a1 len1 cap1 xs) := h1
  have HR2 : Hid (Row w a2 len2 cap2 ys) := h2
  obtain ⟨T, hTe⟩ : ∃ T, (addL 0 xs ys).length = T := ⟨_, rfl⟩
  rw [hTe] at hT
  have HT : Hid ((addL 0 xs ys).length = T) := hTe
  clear h1 h2 hTe
  go_enter Tryz.func181, Tryz.ntmps181
  go_wp2
  go_loopg [5, 6, 7, 8] T (fun gk v co io _ wr => ∃ (i : Nat) (c : Int) (os : List Int), i ≤ T ∧ gk = T - i ∧ io = .int .i64 i ∧ co = .int .i64 c ∧ 0 ≤ c ∧ c ≤ 1 ∧ os.length = i ∧
    wr.ownsRow w.heap.size 3 1 v i (os.map (Value.int .i64)) ∧ os ++ addL c (xs.drop i) (ys.drop i) = addL 0 xs ys ∧ Below w.heap.size w wr)
  case atStart => exact ⟨0, 0, [], Nat.zero_le _, rfl, rfl, rfl, by decide, by decide, rfl, World.ownsRow_nil _ _ _ _, rfl, Below.refl _ _⟩
  case round =>
    obtain ⟨i, c, os, hiT, rfl, rfl, rfl, hc0, hc1, hos, hown, heq, hbel⟩ := hrel
    have HEQ : Hid (os ++ addL c (xs.drop i) (ys.drop i) = addL 0 xs ys) := heq
    have HOS : Hid (os.length = i) := hos
    have HB : Hid (Below w.heap.size w wr) := hbel
    clear heq hos
    by_cases l1 : i < len1
    · have hx := HR1.out.dig.nth i
      have e1 : xs.drop i = nth xs i :: xs.drop (i + 1) := drop_nth xs i (by omega)
      obtain ⟨b1, off1, ha1, hcc1⟩ := (HR1.out.lies.below hbel).resolve_left (by rintro rfl; simp at z1; omega)
      have g1 := hcc1 i (by omega)
      subst ha1
      clear hcc1
      by_cases l2 : i < len2
      · have hy := HR2.out.dig.nth i
        have e2 : ys.drop i = nth ys i :: ys.drop (i + 1) := drop_nth ys i (by omega)
        obtain ⟨b2, off2, ha2, hcc2⟩ := (HR2.out.lies.below hbel).resolve_left (by rintro rfl; simp at z2; omega)
        have g2 := hcc2 i (by omega)
        subst ha2
        have heq := HEQ.out
        rw [e1, e2, addL] at heq
        have hlt : i < T := by have := congrArg List.length heq; rw [HT.out, List.length_append, List.length_cons, HOS.out] at this; omega
        have HEQ' : Hid (os ++ (c + nth xs i + nth ys i) % 1073741824 :: addL ((c + nth xs i + nth ys i) / 1073741824) (xs.drop (i + 1)) (ys.drop (i + 1)) = addL 0 xs ys) := heq
        clear e1 e2 heq hcc2 HEQ
        generalize nth xs i = x at *
        generalize nth ys i = y at *
        go_wp2_with (at_builtin; refine wpList_append_own _ rfl (.tmp 46) (.tmp 49) 60 rfl w.heap.size 3 i0 (.int .i64 0) 1 8 Tryz.underlying60 hi hz0 hz1 hz2 rfl (by decide) u5 i _ rfl (hown.alloc _) ⟨wr.heap.size, 0, none⟩ 1 1 [.int .i64 _] rfl rfl (one_new _ _ _) (one_cell _) (by unfold maxLen; omega) (by omega) (by have := hbel.size; simp; omega) ?_; intro v' w1 hown' hgrow _)
        obtain ⟨R1, R2⟩ := grown_row hown' hgrow hown hbel
        go_roundg (T - (i + 1))
        case measure => omega
        case rel => exact ⟨i + 1, _, os ++ [_], by omega, rfl, by go_num, rfl, by omega, by omega, by simp [HOS.out], R1, by rw [List.append_assoc]; exact HEQ'.out, R2⟩
      · have e2 : ys.drop i = [] := drop_end ys i (by omega)
        have e3 : ys.drop (i + 1) = [] := drop_end ys (i + 1) (by omega)
        have heq := HEQ.out
        rw [e1, e2, addL] at heq
        have hlt : i < T := by have := congrArg List.length heq; rw [HT.out, List.length_append, List.length_cons, HOS.out] at this; omega
        have HEQ' : Hid (os ++ (c + nth xs i) % 1073741824 :: addL ((c + nth xs i) / 1073741824) (xs.drop (i + 1)) (ys.drop (i + 1)) = addL 0 xs ys) := by rw [e3]; exact heq
        clear e1 e2 e3 heq HEQ
        generalize nth xs i = x at *
        go_wp2_with (at_builtin; refine wpList_append_own _ rfl (.tmp 46) (.tmp 49) 60 rfl w.heap.size 3 i0 (.int .i64 0) 1 8 Tryz.underlying60 hi hz0 hz1 hz2 rfl (by decide) u5 i _ rfl (hown.alloc _) ⟨wr.heap.size, 0, none⟩ 1 1 [.int .i64 _] rfl rfl (one_new _ _ _) (one_cell _) (by unfold maxLen; omega) (by omega) (by have := hbel.size; simp; omega) ?_; intro v' w1 hown' hgrow _)
        obtain ⟨R1, R2⟩ := grown_row hown' hgrow hown hbel
        go_roundg (T - (i + 1))
        case measure => omega
        case rel => exact ⟨i + 1, _, os ++ [_], by omega, rfl, by go_num, rfl, by omega, by omega, by simp [HOS.out], R1, by rw [List.append_assoc]; exact HEQ'.out, R2⟩
    · have e1 : xs.drop i = [] := drop_end xs i (by omega)
      have e4 : xs.drop (i + 1) = [] := drop_end xs (i + 1) (by omega)
      by_cases l2 : i < len2
      · have hy := HR2.out.dig.nth i
        have e2 : ys.drop i = nth ys i :: ys.drop (i + 1) := drop_nth ys i (by omega)
        obtain ⟨b2, off2, ha2, hcc2⟩ := (HR2.out.lies.below hbel).resolve_left (by rintro rfl; simp at z2; omega)
        have g2 := hcc2 i (by omega)
        subst ha2
        have heq := HEQ.out
        rw [e1, e2, addL] at heq
        have hlt : i < T := by have := congrArg List.length heq; rw [HT.out, List.length_append, List.length_cons, HOS.out] at this; omega
        have HEQ' : Hid (os ++ (c + nth ys i) % 1073741824 :: addL ((c + nth ys i) / 1073741824) (xs.drop (i + 1)) (ys.drop (i + 1)) = addL 0 xs ys) := by rw [e4]; exact heq
        clear e1 e2 e4 heq hcc2 HEQ
        generalize nth ys i = y at *
        go_wp2_with (at_builtin; refine wpList_append_own _ rfl (.tmp 46) (.tmp 49) 60 rfl w.heap.size 3 i0 (.int .i64 0) 1 8 Tryz.underlying60 hi hz0 hz1 hz2 rfl (by decide) u5 i _ rfl (hown.alloc _) ⟨wr.heap.size, 0, none⟩ 1 1 [.int .i64 _] rfl rfl (one_new _ _ _) (one_cell _) (by unfold maxLen; omega) (by omega) (by have := hbel.size; simp; omega) ?_; intro v' w1 hown' hgrow _)
        obtain ⟨R1, R2⟩ := grown_row hown' hgrow hown hbel
        go_roundg (T - (i + 1))
        case measure => omega
        case rel => exact ⟨i + 1, _, os ++ [_], by omega, rfl, by go_num, rfl, by omega, by omega, by simp [HOS.out], R1, by rw [List.append_assoc]; exact HEQ'.out, R2⟩
      · have e2 : ys.drop i = [] := drop_end ys i (by omega)
        have e3 : ys.drop (i + 1) = [] := drop_end ys (i + 1) (by omega)
        by_cases hcp : 0 < c
        · have ec : c = 1 := by omega
          subst ec
          have heq := HEQ.out
          rw [e1, e2, addL, if_pos (by decide)] at heq
          have hlt : i < T := by have := congrArg List.length heq; rw [HT.out, List.length_append, List.length_cons, HOS.out] at this; omega
          have HEQ' : Hid (os ++ 1 :: addL 0 (xs.drop (i + 1)) (ys.drop (i + 1)) = addL 0 xs ys) := by
            have k0 : addL 0 [] [] = [] := by rw [addL, if_neg (by decide)]
            rw [e3, e4, k0]; exact heq
          clear e1 e2 e3 e4 heq HEQ
          go_wp2_with (at_builtin; refine wpList_append_own _ rfl (.tmp 46) (.tmp 49) 60 rfl w.heap.size 3 i0 (.int .i64 0) 1 8 Tryz.underlying60 hi hz0 hz1 hz2 rfl (by decide) u5 i _ rfl (hown.alloc _) ⟨wr.heap.size, 0, none⟩ 1 1 [.int .i64 _] rfl rfl (one_new _ _ _) (one_cell _) (by unfold maxLen; omega) (by omega) (by have := hbel.size; simp; omega) ?_; intro v' w1 hown' hgrow _)
          obtain ⟨R1, R2⟩ := grown_row hown' hgrow hown hbel
          go_roundg (T - (i + 1))
          case measure => omega
          case rel => exact ⟨i + 1, _, os ++ [_], by omega, rfl, by go_num, rfl, by omega, by omega, by simp [HOS.out], R1, by rw [List.append_assoc]; exact HEQ'.out, R2⟩
        · have ec : c = 0 := by omega
          subst ec
          have heq := HEQ.out
          rw [e1, e2, addL, if_neg (by decide), List.append_nil] at heq
          subst heq
          have hvv := HV.out
          obtain ⟨a', cap', hv, hl', hat', hcp', hn', -⟩ := owns_at hown
          have hrow : Row wr a' i cap' (addL 0 xs ys) := ⟨hl', hat', hn', hcp', by omega, hvv.2⟩
          subst hv
          clear e1 e2 e3 e4 HEQ hown
          go_wp2_with (go_at_call 184; refine (trim_any _ _ _ _ _ hrow).mono ?_; rintro e w' ⟨n, rfl, rfl, r1, r2, r3⟩)
          go_ret
          exact ⟨a', n, cap', _, rfl, r1, r3, r2.trans hvv.1, hbel, by have := r1.size; rw [List.length_take] at this; omega⟩
theorem lessL_step (b : Int) (xs ys : List Int) (i : Nat) (h : i < xs.length) :
    lessL b (xs.drop i) (ys.drop i) = (if nth xs i - b - nth ys i < 0 then nth xs i - b - nth ys i + 1073741824 else nth xs i - b - nth ys i) :: lessL (if nth xs i - b - nth ys i < 0 then 1 else 0) (xs.drop (i + 1)) (ys.drop (i + 1)) := by
  have e : nth (ys.drop i) 0 = nth ys i := by
    unfold nth
    rw [List.getD_eq_getElem?_getD, List.getD_eq_getElem?_getD, List.getElem?_drop, Nat.add_zero]
  rw [drop_nth xs i h, lessL, e, List.tail_drop]
set_option maxRecDepth 100000 in
set_option maxHeartbeats 2000000 in
theorem lessRow_any (a1 a2 : Option Addr) (len1 len2 cap1 cap2 : Nat) (xs ys : List Int) (w : World) (h1 : Row w a1 len1 cap1 xs) (h2 : Row w a2 len2 cap2 ys) (hle : val ys ≤ val xs) :
    Calls Tryz.prog 183 #[.slice a1 len1 cap1, .slice a2 len2 cap2] w (MadeRow w (val xs - val ys) len1) := by
  obtain ⟨i0, hi, hz0, hz1, hz2⟩ := info_parts Tryz.info3
  have z1 := h1.size
  have z2 := h2.size
  have s1 := h1.short
  have s2 := h2.short
  have HV : Hid (val (lessL 0 xs ys) = val xs - val ys ∧ Dig (lessL 0 xs ys)) := by
    have := lessL_val h1.dig h2.dig (b := 0) (by decide) (by omega)
    exact ⟨by rw [this.1]; omega, this.2⟩
  have HR1 : Hid (Row w a1 len1 cap1 xs) := h1
  have HR2 : Hid (Row w a2 len2 cap2 ys) := h2
  clear h1 h2 hle
  go_enter Tryz.func183, Tryz.ntmps183
  go_wp2
  go_loopg [5, 6, 7, 8] len1 (fun gk v co io _ wr => ∃ (i : Nat) (c : Int) (os : List Int), i ≤ len1 ∧ gk = len1 - i ∧ io = .int .i64 i ∧ co = .int .i64 c ∧ 0 ≤ c ∧ c ≤ 1 ∧ os.length = i ∧
    wr.ownsRow w.heap.size 3 1 v i (os.map (Value.int .i64)) ∧ os ++ lessL c (xs.drop i) (ys.drop i) = lessL 0 xs ys ∧ Below w.heap.size w wr)
  case atStart => exact ⟨0, 0, [], Nat.zero_le _, rfl, rfl, rfl, by decide, by decide, rfl, World.ownsRow_nil _ _ _ _, rfl, Below.refl _ _⟩
  case round =>
    obtain ⟨i, c, os, hiT, rfl, rfl, rfl, hc0, hc1, hos, hown, heq, hbel⟩ := hrel
    have HEQ : Hid (os ++ lessL c (xs.drop i) (ys.drop i) = lessL 0 xs ys) := heq
    have HOS : Hid (os.length = i) := hos
    clear heq hos
    by_cases l1 : i < len1
    · have hx := HR1.out.dig.nth i
      have hy := HR2.out.dig.nth i
      obtain ⟨b1, off1, ha1, hcc1⟩ := (HR1.out.lies.below hbel).resolve_left (by rintro rfl; simp at z1; omega)
      have g1 := hcc1 i (by omega)
      subst ha1
      clear hcc1
      have heq := HEQ.out
      rw [lessL_step c xs ys i (by omega)] at heq
      by_cases l2 : i < len2
      · obtain ⟨b2, off2, ha2, hcc2⟩ := (HR2.out.lies.below hbel).resolve_left (by rintro rfl; simp at z2; omega)
        have g2 := hcc2 i (by omega)
        subst ha2
        clear hcc2
        by_cases hs : nth xs i - c - nth ys i < 0
        · rw [if_pos hs, if_pos hs] at heq
          have HEQ' : Hid (os ++ (nth xs i - c - nth ys i + 1073741824) :: lessL 1 (xs.drop (i + 1)) (ys.drop (i + 1)) = lessL 0 xs ys) := heq
          clear heq HEQ
          generalize nth xs i = x at *
          generalize nth ys i = y at *
          go_wp2_with (at_builtin; refine wpList_append_own _ rfl (.tmp 35) (.tmp 37) 60 rfl w.heap.size 3 i0 (.int .i64 0) 1 8 Tryz.underlying60 hi hz0 hz1 hz2 rfl (by decide) u5 i _ rfl (hown.alloc _) ⟨wr.heap.size, 0, none⟩ 1 1 [.int .i64 _] rfl rfl (one_new _ _ _) (one_cell _) (by unfold maxLen; omega) (by omega) (by have := hbel.size; simp; omega) ?_; intro v' w1 hown' hgrow _)
          obtain ⟨R1, R2⟩ := grown_row hown' hgrow hown hbel
          go_roundg (len1 - (i + 1))
          case measure => omega
          case rel => exact ⟨i + 1, _, os ++ [_], by omega, rfl, by go_num, rfl, by decide, by decide, by simp [HOS.out], R1, by rw [List.append_assoc]; exact HEQ'.out, R2⟩
        · rw [if_neg hs, if_neg hs] at heq
          have HEQ' : Hid (os ++ (nth xs i - c - nth ys i) :: lessL 0 (xs.drop (i + 1)) (ys.drop (i + 1)) = lessL 0 xs ys) := heq
          clear heq HEQ
          generalize nth xs i = x at *
          generalize nth ys i = y at *
          go_wp2_with (at_builtin; refine wpList_append_own _ rfl (.tmp 35) (.tmp 37) 60 rfl w.heap.size 3 i0 (.int .i64 0) 1 8 Tryz.underlying60 hi hz0 hz1 hz2 rfl (by decide) u5 i _ rfl (hown.alloc _) ⟨wr.heap.size, 0, none⟩ 1 1 [.int .i64 _] rfl rfl (one_new _ _ _) (one_cell _) (by unfold maxLen; omega) (by omega) (by have := hbel.size; simp; omega) ?_; intro v' w1 hown' hgrow _)
          obtain ⟨R1, R2⟩ := grown_row hown' hgrow hown hbel
          go_roundg (len1 - (i + 1))
          case measure => omega
          case rel => exact ⟨i + 1, _, os ++ [_], by omega, rfl, by go_num, rfl, by decide, by decide, by simp [HOS.out], R1, by rw [List.append_assoc]; exact HEQ'.out, R2⟩
      · have e0 : nth ys i = 0 := nth_over (by omega)
        rw [e0, Int.sub_zero] at heq
        by_cases hs : nth xs i - c < 0
        · rw [if_pos hs, if_pos hs] at heq
          have HEQ' : Hid (os ++ (nth xs i - c + 1073741824) :: lessL 1 (xs.drop (i + 1)) (ys.drop (i + 1)) = lessL 0 xs ys) := heq
          clear heq HEQ e0 hy
          generalize nth xs i = x at *
          go_wp2_with (at_builtin; refine wpList_append_own _ rfl (.tmp 35) (.tmp 37) 60 rfl w.heap.size 3 i0 (.int .i64 0) 1 8 Tryz.underlying60 hi hz0 hz1 hz2 rfl (by decide) u5 i _ rfl (hown.alloc _) ⟨wr.heap.size, 0, none⟩ 1 1 [.int .i64 _] rfl rfl (one_new _ _ _) (one_cell _) (by unfold maxLen; omega) (by omega) (by have := hbel.size; simp; omega) ?_; intro v' w1 hown' hgrow _)
          obtain ⟨R1, R2⟩ := grown_row hown' hgrow hown hbel
          go_roundg (len1 - (i + 1))
          case measure => omega
          case rel => exact ⟨i + 1, _, os ++ [_], by omega, rfl, by go_num, rfl, by decide, by decide, by simp [HOS.out], R1, by rw [List.append_assoc]; exact HEQ'.out, R2⟩
        · rw [if_neg hs, if_neg hs] at heq
          have HEQ' : Hid (os ++ (nth xs i - c) :: lessL 0 (xs.drop (i + 1)) (ys.drop (i + 1)) = lessL 0 xs ys) := heq
          clear heq HEQ e0 hy
          generalize nth xs i = x at *
          go_wp2_with (at_builtin; refine wpList_append_own _ rfl (.tmp 35) (.tmp 37) 60 rfl w.heap.size 3 i0 (.int .i64 0) 1 8 Tryz.underlying60 hi hz0 hz1 hz2 rfl (by decide) u5 i _ rfl (hown.alloc _) ⟨wr.heap.size, 0, none⟩ 1 1 [.int .i64 _] rfl rfl (one_new _ _ _) (one_cell _) (by unfold maxLen; omega) (by omega) (by have := hbel.size; simp; omega) ?_; intro v' w1 hown' hgrow _)
          obtain ⟨R1, R2⟩ := grown_row hown' hgrow hown hbel
          go_roundg (len1 - (i + 1))
          case measure => omega
          case rel => exact ⟨i + 1, _, os ++ [_], by omega, rfl, by go_num, rfl, by decide, by decide, by simp [HOS.out], R1, by rw [List.append_assoc]; exact HEQ'.out, R2⟩
    · have e1 : xs.drop i = [] := drop_end xs i (by omega)
      have heq := HEQ.out
      rw [e1, lessL, List.append_nil] at heq
      subst heq
      have hvv := HV.out
      obtain ⟨a', cap', hv, hl', hat', hcp', hn', -⟩ := owns_at hown
      have hrow : Row wr a' i cap' (lessL 0 xs ys) := ⟨hl', hat', hn', hcp', by omega, hvv.2⟩
      subst hv
      clear e1 HEQ hown
      go_wp2_with (go_at_call 184; refine (trim_any _ _ _ _ _ hrow).mono ?_; rintro e w' ⟨n, rfl, rfl, r1, r2, r3⟩)
      go_ret
      exact ⟨a', n, cap', _, rfl, r1, r3, r2.trans hvv.1, hbel, by have := r1.size; rw [List.length_take] at this; omega⟩
end Go.Proofs.YtolpelfdhcccnaaGreatDoor

/- The walk through the statement ActorsFilters. (Written by tmpl/mkActFl.py.) -/
import Derived.Test.YtoenbiigamegoabActS
import Derived.Test.YtoenbiigamegoabActD
import Derived.Test.YtoenbiigamegoabBigTimesB
import Derived.Test.YtoenbiigamegoabBigOf
import Derived.Test.YtoenbiigamegoabBigPlus
import Derived.Test.YtoenbiigamegoabBigIntB
import Derived.Test.YtoenbiigamegoabRegInv
namespace Go.Proofs.Ytoenbiigamegoab
open Go.ChangeShapes Go.WideShapes Go.ChangeAt Go.RowKit

def IsWh (w : World) (x : Int) (bound : Nat) (v : Value) : Prop := ∃ m a l p ds, v = .agg #[.bool m, .slice a l p] ∧ Wh w m a l p ds x ∧ l ≤ bound
theorem IsWh.later {w w' : World} {x : Int} {n : Nat} {v : Value} (h : IsWh w x n v) (hb : Below w.heap.size w w') : IsWh w' x n v := by
  obtain ⟨m, a, l, p, ds, e, hw, hl⟩ := h
  exact ⟨m, a, l, p, ds, e, hw.below hb, hl⟩
theorem of_said {x : Int} {W : World} (h : Calls Try.prog 14 #[.int .i64 x] W (MadeWh W x 3)) : Calls Try.prog 14 #[.int .i64 x] W fun e w' => ∃ v, e = .returned v ∧ Below W.heap.size W w' ∧ IsWh w' x 3 v :=
  h.mono fun _ _ ⟨m, a, l, p, ds, he, hw, hb, hl⟩ => ⟨_, he, hb, m, a, l, p, ds, rfl, hw, hl⟩
theorem times_said {x y : Int} {W : World} {u v : Value} {n m : Nat} (h1 : IsWh W x n u) (h2 : IsWh W y m v) (hs : n + m < 1000000000) : Calls Try.prog 16 #[u, v] W fun e w' => ∃ r, e = .returned r ∧ Below W.heap.size W w' ∧ IsWh w' (x * y) (n + m) r := by
  obtain ⟨m1, a1, l1, p1, d1, rfl, w1, b1⟩ := h1
  obtain ⟨m2, a2, l2, p2, d2, rfl, w2, b2⟩ := h2
  refine (times_any m1 m2 a1 a2 l1 l2 p1 p2 d1 d2 x y W w1 w2 (by omega)).mono ?_
  rintro e w' ⟨m, a, l, p, ds, he, hw, hb, hl⟩
  exact ⟨_, he, hb, m, a, l, p, ds, rfl, hw, by omega⟩
theorem plus_said {x y : Int} {W : World} {m1 m2 : Bool} {a1 a2 : Option Addr} {l1 l2 p1 p2 n m : Nat} {d1 d2 : List Int} (h1 : Wh W m1 a1 l1 p1 d1 x) (h2 : Wh W m2 a2 l2 p2 d2 y) (b1 : l1 ≤ n) (b2 : l2 ≤ m) (hs : n + m < 1000000000) : Calls Try.prog 15 #[.agg #[.bool m1, .slice a1 l1 p1], .agg #[.bool m2, .slice a2 l2 p2]] W fun e w' => ∃ r, e = .returned r ∧ Below W.heap.size W w' ∧ IsWh w' (x + y) (n + m + 1) r :=
  (plus_any m1 m2 a1 a2 l1 l2 p1 p2 d1 d2 x y W h1 h2 (by omega)).mono fun _ _ ⟨m, a, l, p, ds, he, hw, hb, hl⟩ => ⟨_, he, hb, m, a, l, p, ds, rfl, hw, by omega⟩
theorem Wh.store7 {w : World} {neg : Bool} {a : Option Addr} {len cap : Nat} {ds : List Int} {n : Int} {b : Nat} {T : TypeId} {m : Bool} {r : Option Addr} {l p : Nat} (h : Wh w neg a len cap ds n) (v : BlkA T b w #[.bool m, .slice r l p]) (u1 u2 : Value) :
    Wh ((w.setCell ⟨b, 0, none⟩ u1).setCell ⟨b, 1, none⟩ u2) neg a len cap ds n := by
  have k1 : (w.setCell ⟨b, 0, none⟩ u1).cell? ⟨b, 1, none⟩ = some (.slice r l p) := (v.set 0 u1).cell (k := 1) rfl
  have hat := (h.row.lies.store (v := u1) (v.cell (k := 0) rfl) (fun _ e => by cases e)).store (v := u2) k1 (fun _ e => by cases e)
  exact ⟨⟨h.row.size, hat, h.row.none, h.row.room, h.row.short, h.row.dig⟩, h.norm, h.worth, h.sign⟩
theorem dotO_fit : ∀ (xs ys : List Int) (s y : Int), fitB s = true → dotO s xs ys = some y → fitB y = true
  | [], ys, s, y, hs, h => by
    rw [dotO_nil_left] at h
    cases h; exact hs
  | x :: xs, [], s, y, hs, h => by
    unfold dotO at h
    cases h; exact hs
  | x :: xs, z :: ys, s, y, hs, h => by
    unfold dotO at h
    split at h
    · split at h
      · rename_i _ h2
        exact dotO_fit xs ys (s + x * z) y h2 h
      · cases h
    · cases h
/-- A firing of a filter that gives a token. -/
def OneT (F : Nat → Prop) (V : World) (B K t : Nat) (zs ks : List Int) (m : Nat) (y : Int) (e : Ending) (w' : World) : Prop :=
  ∃ x c A C F', e = .returned (.tuple #[.slice x 1 c, .int .i64 0]) ∧ OutT V.heap.size w' A C x [[y]] ∧ Bod F' w' B K t zs ks m ∧ (∀ k, F' k → F k ∨ V.heap.size ≤ k) ∧ But K V w'
theorem oneT_of {F : Nat → Prop} {V W : World} {B K t : Nat} {zs ks ks' : List Int} {n : Nat} {I : List (List Int)} {y : Int} {e : Ending} {w' : World} (h : FireEnd F W B K t zs ks n I e w') (hr : fireS t zs ks I = (0, [[y]], ks')) (hV : Below V.heap.size V W) : OneT F V B K t zs ks' (n + 1) y e w' := by
  unfold FireEnd at h
  rw [hr] at h
  obtain ⟨x, c, A, C, F', he, hO, hB, hF, hb⟩ := h
  refine ⟨x, c, A, C, F', he, hO.mono hV.size, hB, fun k hk => ?_, (But.of_below hV).trans hb⟩
  rcases hF k hk with h | h
  · exact .inl h
  · exact .inr (Nat.le_trans hV.size h.1)
theorem out_one {B : Nat} {w : World} {A : Nat → Option Addr} {C : Nat → Nat} {x : Option Addr} {y : Int} (h : OutT B w A C x [[y]]) : ∃ g rb c2, x = some ⟨g, 0, none⟩ ∧ w.cell? ⟨g, 0, none⟩ = some (.slice (some ⟨rb, 0, none⟩) 1 c2) ∧ w.cell? ⟨rb, 0, none⟩ = some (.int .i64 y) := by
  rcases h.tab with h0 | ⟨g, hx, h1, h2, h3, h4⟩
  · cases h0
  · have hr := h.rows 0 (by simp)
    obtain ⟨rb, e, -, -⟩ := hr.there (by show 0 < 1; decide)
    have h5 := h3 0 (by simp)
    rw [e] at h5 hr
    exact ⟨g, rb, C 0, hx, h5, hr.nthCell (k := 0) (by show 0 < 1; decide)⟩
/-- The state of the statement's loop. -/
structure FlS (w wr : World) (B K m : Nat) (taps T : List Int) (d : Option Addr) (c : Nat) (F : Nat → Prop) : Prop where
  own : CapR w.heap.size wr d c T
  bod : Bod F wr B K 1 taps (lastS T m) T.length
  low : ∀ q, F q → w.heap.size ≤ q
  ne : ∀ q y, F q → d = some y → y.block ≠ q
  bel : Below w.heap.size w wr
theorem FlS.below {w wr w1 : World} {B K m : Nat} {taps T : List Int} {d : Option Addr} {c : Nat} {F : Nat → Prop} (h : FlS w wr B K m taps T d c F) (hb : Below wr.heap.size wr w1) : FlS w w1 B K m taps T d c F := ⟨h.own.later hb, h.bod.below hb, h.low, h.ne, h.bel.trans (hb.mono h.bel.size)⟩
theorem app_state {w w1 w2 : World} {T : List Int} {d : Option Addr} {c n : Nat} {x : Int} {v' : Value} {o : Obj} (hn : T.length + 1 = n) (hown : CapR w.heap.size w1 d c T) (hw : w.heap.size ≤ w1.heap.size) (ho : w2.ownsRow w.heap.size 3 1 v' (T.length + 1) (T.map (Value.int .i64) ++ [.int .i64 x])) (hg : (∃ g cap, Value.slice d T.length c = .slice (some ⟨g, 0, none⟩) T.length cap ∧ v' = .slice (some ⟨g, 0, none⟩) (T.length + 1) cap ∧ (w1.alloc o).grownBy w2 (some g)) ∨ (∃ cap, v' = .slice (some ⟨(w1.alloc o).heap.size, 0, none⟩) (T.length + 1) cap ∧ (w1.alloc o).grownBy w2 none)) :
    ∃ kb c', v' = .slice (some ⟨kb, 0, none⟩) n c' ∧ CapR w.heap.size w2 (some ⟨kb, 0, none⟩) c' (T ++ [x]) ∧ (∀ q, q < w1.heap.size → (∀ y, d = some y → y.block ≠ q) → w2.heap[q]? = w1.heap[q]? ∧ kb ≠ q) ∧ Below w.heap.size w1 w2 := by
  have hl2 : (T ++ [x]).length = T.length + 1 := by simp
  have ba := (Below.refl w1.heap.size w1).alloc (Nat.le_refl _) o
  have capd : ∀ d c, v' = .slice d (T.length + 1) c → CapR w.heap.size w2 d c (T ++ [x]) := fun d c e => by
    unfold CapR
    rw [hl2, List.map_append, ← e]
    exact ho
  subst hn
  have hs : (w1.alloc o).heap.size = w1.heap.size + 1 := by simp
  rcases hg with ⟨g, cp, e1, e2, hgr⟩ | ⟨cp, e2, hgr⟩
  · injection e1 with e3 e4 e5
    refine ⟨g, cp, e2, capd _ _ e2, fun q h1 h2 => ⟨?_, h2 _ e3⟩, (ba.mono hw).grown hgr (by omega) (fun q e => by cases e; exact (hown.lt _ e3).1)⟩
    rw [hgr.block q (by omega) (fun e => by injection e with e; exact h2 _ e3 e.symm)]
    exact ba.block q h1
  · refine ⟨_, cp, e2, capd _ _ e2, fun q h1 h2 => ⟨?_, by omega⟩, (ba.mono hw).grown hgr (by omega) (fun q e => by cases e)⟩
    rw [hgr.block q (by omega) (fun e => by cases e)]
    exact ba.block q h1
theorem FlS.fired {w wr w1 : World} {B K m : Nat} {taps T : List Int} {d : Option Addr} {c : Nat} {F F' : Nat → Prop} (h : FlS w wr B K m taps T d c F) (hF : ∀ k, F' k → F k ∨ wr.heap.size ≤ k) (hb : But K wr w1) : CapR w.heap.size w1 d c T ∧ (∀ q, F' q → w.heap.size ≤ q) ∧ (∀ q y, F' q → d = some y → y.block ≠ q) ∧ Below w.heap.size w w1 := by
  have hK := h.low K h.bod.kin.mem.1
  refine ⟨h.own.keep fun y hy => hb.block _ (h.own.lt y hy).2 (h.ne K y h.bod.kin.mem.1 hy), fun q hq => ?_, fun q y hq hy => ?_, but_below hb h.bel hK⟩
  · rcases hF q hq with h1 | h1
    · exact h.low q h1
    · have := h.bel.size; omega
  · rcases hF q hq with h1 | h1
    · exact h.ne q y h1 hy
    · have := (h.own.lt y hy).2; omega
set_option maxRecDepth 100000 in
set_option maxHeartbeats 8000000 in
theorem filters_good (a1 : Option Addr) (len1 cap1 : Nat) (taps : List Int) (a2 : Option Addr) (len2 cap2 : Nat) (xs : List Int) (w : World) (hA1 : Arg w a1 len1 cap1 taps) (hA2 : Arg w a2 len2 cap2 xs) (h1 : 1 ≤ len1 ∧ len1 ≤ 16) : Calls Try.prog 4 #[.slice a1 len1 cap1, .slice a2 len2 cap2] w fun e w' => e = .returned (.bool true) ∧ Below w.heap.size w w' := by
  obtain ⟨m, hm⟩ : ∃ m, len1 = m + 1 := ⟨len1 - 1, by omega⟩
  have hs1 := hA1.size
  have hok : okS 1 taps = true := by show wB (taps.length : Int) 16 = true; unfold wB; rw [decide_eq_true (show (1 : Int) ≤ (taps.length : Int) by omega), decide_eq_true (show (taps.length : Int) ≤ 16 by omega)]; rfl
  have N1 : Hid (Calls Try.prog 8 #[.int .u8 1, .slice a1 len1 cap1] w (Fresh w 1 taps (lastS [] m))) := (new_any 1 a1 taps len1 cap1 w (by decide) hs1 hA1.fits hA1.none hA1.lies).mono fun _ _ h => fresh_of h (by unfold ofS; rw [if_pos (by decide), if_pos hok]) (by rw [last_nil]; show List.replicate (taps.length - 1) 0 = _; rw [hs1, hm]; rfl)
  have AW : Hid (∀ V, Calls Try.prog 9 #[] V fun e w' => e = .returned (.bool true) ∧ Below V.heap.size V w') := fun V => awake7 V
  have FD : Hid (∀ F V B K T k, Bod F V B K 1 taps (lastS T m) k → Calls Try.prog 12 #[.pointer (some ⟨B, 0, none⟩)] V fun e w' => e = .returned (.int .i64 (k : Int)) ∧ w' = V) := fun F V B K T k h => bfired_1 F V B K taps (lastS T m) k h
  have FY : Hid (∀ F V B K T x y k, Bod F V B K 1 taps (lastS T m) k → (-9223372036854775808 ≤ x ∧ x ≤ 9223372036854775807) → k < 4611686018427387904 → dotO 0 taps (x :: lastS T m) = some y → Calls Try.prog 10 #[.pointer (some ⟨B, 0, none⟩), .slice (some ⟨V.heap.size + 1, 0, none⟩) 1 1] ((V.alloc (.cells #[.int .i64 x] 3)).alloc (.cells #[.slice (some ⟨V.heap.size, 0, none⟩) 1 1] 31)) (OneT F V B K 1 taps (lastS (T ++ [x]) m) (k + 1) y)) := fun F V B K T x y k h hx hk hd =>
    (bfire_1 F _ B K taps (lastS T m) k _ 1 1 [[x]] (h.below (below_two V _ _)) (arg_one V x hx) hk).mono fun _ _ h => oneT_of h (by rw [fire_filter, hd, last_len, last_push]) (below_two V _ _)
  have FN : Hid (∀ F V B K T x k, Bod F V B K 1 taps (lastS T m) k → (-9223372036854775808 ≤ x ∧ x ≤ 9223372036854775807) → k < 4611686018427387904 → dotO 0 taps (x :: lastS T m) = none → Calls Try.prog 10 #[.pointer (some ⟨B, 0, none⟩), .slice (some ⟨V.heap.size + 1, 0, none⟩) 1 1] ((V.alloc (.cells #[.int .i64 x] 3)).alloc (.cells #[.slice (some ⟨V.heap.size, 0, none⟩) 1 1] 31)) (NoneR F V B K 1 taps (lastS T m) k)) := fun F V B K T x k h hx hk hd =>
    (bfire_1 F _ B K taps (lastS T m) k _ 1 1 [[x]] (h.below (below_two V _ _)) (arg_one V x hx) hk).mono fun _ _ h => none_of h (by rw [fire_filter, hd]) (below_two V _ _)
  have OF : Hid (∀ x W, (-9223372036854775808 ≤ x ∧ x ≤ 9223372036854775807) → Calls Try.prog 14 #[.int .i64 x] W (MadeWh W x 3)) := fun x W h => of_any x W h
  have HA1 := hidden6 hA1
  have HA2 := hidden6 hA2
  have hr1 := hA1.reach
  have hr2 := hA2.reach
  have HM : Hid (taps.length = m + 1) := by show _ = _; omega
  have hl1 : (1 : Int) ≤ (len1 : Int) := by omega
  have hl2 : (len1 : Int) ≤ 16 := by omega
  obtain ⟨i0, hi, hz0, hz1, hz2⟩ := info_parts Try.info3
  clear hA1 hA2 hok hs1 hm
  go_enter Try.func4, Try.ntmps4
  go_wp2_with (go_at_call 8; (with_reducible refine N1.out.mono ?_); rintro e w1 ⟨B, K, F0, rfl, hB0, hF0, b0⟩)
  have ST : Hid (FlS w w1 B K m taps [] none 0 F0) := ⟨CapR.nil _ _, hB0, hF0, (fun _ _ _ h => by cases h), b0⟩
  clear hB0 hF0 b0 N1
  go_loopg [7, 8] len2 (fun gk v7 v8 wr => ∃ (k : Nat) (T : List Int) (F : Nat → Prop) (d : Option Addr) (c : Nat), k ≤ len2 ∧ gk = len2 - k ∧ v8 = .int .i64 (k : Int) ∧ v7 = .slice d T.length c ∧ T.length ≤ k ∧ InR T ∧ FlS w wr B K m taps T d c F)
  case atStart => exact ⟨0, [], F0, none, 0, Nat.zero_le _, rfl, rfl, rfl, Nat.le_refl _, inR0, ST.out⟩
  case round =>
    clear ST
    obtain ⟨k, T, F, d, c, hk, rfl, rfl, rfl, hTk, hTi, hS⟩ := hrel
    have HS := hidden6 hS
    have HT := hidden6 hTi
    clear hS hTi
    by_cases hlt : k < len2
    · have hki : (k : Int) < (len2 : Int) := by omega
      rcases HA2.out.lies with h0 | ⟨b, off, rfl, hc⟩
      · have := HA2.out.size; rw [h0] at this; simp at this; omega
      have hx := HA2.out.fits k
      have hck := hc k (by have := HA2.out.size; omega)
      have cx := cell_keep6 HS.out.bel hck
      clear hc
      generalize nth xs k = x at *
      cases hd : dotO 0 taps (x :: lastS T m) with
      | none =>
        have FF := hidden6 (FN.out F wr B K T x T.length HS.out.bod hx (by omega) hd)
        clear hd
        go_wp2_with (go_at_call 10; (with_reducible refine (FF.out).mono ?_); rintro e w1 ⟨x1, c1, F', rfl, hB1, hF1, b1⟩; have PP := hidden6 (HS.out.fired hF1 b1); have HB1 := hidden6 hB1)
        go_roundg (len2 - (k + 1))
        case measure => omega
        case rel => exact ⟨k + 1, T, F', d, c, by omega, rfl, by go_num, rfl, by omega, HT.out, PP.out.1, HB1.out, PP.out.2.1, PP.out.2.2.1, PP.out.2.2.2⟩
      | some y =>
        have FF := hidden6 (FY.out F wr B K T x y T.length HS.out.bod hx (by omega) hd)
        have HY : Hid (y = dotS taps (T ++ [x]).reverse) := filter_dot HM.out hd
        have hfy := dotO_fit _ _ _ _ (by decide) hd
        have hvy := fitV_yes (fitB_true.1 hfy)
        clear hd
        obtain ⟨n, hn⟩ : ∃ n, T.length + 1 = n := ⟨_, rfl⟩
        have APP : Hid (∀ w1 w2 v' o, CapR w.heap.size w1 d c T → w.heap.size ≤ w1.heap.size → w2.ownsRow w.heap.size 3 1 v' (T.length + 1) (T.map (Value.int .i64) ++ [.int .i64 x]) → ((∃ g cap, Value.slice d T.length c = .slice (some ⟨g, 0, none⟩) T.length cap ∧ v' = .slice (some ⟨g, 0, none⟩) (T.length + 1) cap ∧ (w1.alloc o).grownBy w2 (some g)) ∨ (∃ cap, v' = .slice (some ⟨(w1.alloc o).heap.size, 0, none⟩) (T.length + 1) cap ∧ (w1.alloc o).grownBy w2 none)) → ∃ kb c', v' = .slice (some ⟨kb, 0, none⟩) n c' ∧ CapR w.heap.size w2 (some ⟨kb, 0, none⟩) c' (T ++ [x]) ∧ (∀ q, q < w1.heap.size → (∀ y, d = some y → y.block ≠ q) → w2.heap[q]? = w1.heap[q]? ∧ kb ≠ q) ∧ Below w.heap.size w1 w2) := fun w1 w2 v' o h1 h2 h3 h4 => app_state hn h1 h2 h3 h4
        have HN := hidden6 hn
        have hTl : T.length ≤ 140737488351232 := by omega
        clear hn
        go_wp2_with (first
          | (go_at_call 14; (with_reducible refine (OF.out 0 _ (by decide)).mono ?_); rintro e w3 ⟨m0, a0, l0, p0, d0, rfl, hW0, b3, hl0⟩)
          | (at_builtin; refine wpList_append_told _ rfl (.tmp 81) (.tmp 86) 31 rfl w.heap.size 3 i0 (.int .i64 0) 1 8 Try.underlying31 hi hz0 hz1 hz2 rfl (by decide) _ T.length _ rfl (World.ownsRow.alloc hown _) ⟨w1.heap.size, 0, none⟩ 1 1 (by decide) [.int .i64 x] rfl rfl (one_new' _ _ _) (one_cell' _) (by unfold maxLen; omega) (by omega) (by simp; have := PP.out.2.2.2.size; omega) ?_; intro v' w2 hown' hgrow; obtain ⟨kb, c7, rfl, hcap, hkeep, bapp⟩ := APP.out w1 w2 _ _ hown PP.out.2.2.2.size hown' hgrow; clear hown' hgrow)
          | (go_at_call 10; (with_reducible refine FF.out.mono ?_); rintro e w1 ⟨x1, c1, A, C, F', rfl, hO, hB1, hF1, b1⟩; have PP := hidden6 (HS.out.fired hF1 b1); obtain ⟨g, rb, c2, rfl, hg, hrb⟩ := out_one hO; have cx1 := cell_keep6 PP.out.2.2.2 hck; have hown : CapR w.heap.size w1 d c T := PP.out.1))
        have F2 : Hid (FlS w w2 B K m taps (T ++ [x]) (some ⟨kb, 0, none⟩) c7 F') := by
          have hm1 := hB1.kin.mem
          refine ⟨hcap, ?_, PP.out.2.1, fun q z hq hz => ?_, PP.out.2.2.2.trans bapp⟩
          · have e : (T ++ [x]).length = T.length + 1 := by simp
            rw [e]
            exact hB1.keeps fun q hq => (hkeep q (hm1.2 q hq) fun z hz => PP.out.2.2.1 q z hq hz).1
          · cases hz
            exact (hkeep q (hm1.2 q hq) fun z hz => PP.out.2.2.1 q z hq hz).2
        have O2 := hidden6 (hO.keep (w' := w2) (fun q h1 h2 => (hkeep q h2 fun z hz => by have := (HS.out.own.lt z hz).2; omega).1) bapp.size)
        obtain ⟨g', rb', c2', eg, hg2, hrb2⟩ := out_one O2.out
        cases eg
        have F3 := hidden6 (F2.out.below b3)
        have hg3 := cell_keep6 b3 hg2
        have hrb3 := cell_keep6 b3 hrb2
        have W3 := hidden6 hW0
        clear hO hB1 hF1 b1 PP hg hrb hown hcap hkeep bapp hg2 hrb2 O2 hW0
        have V0 := hidden6 (blkA_new 38 w3 #[.bool m0, .slice a0 l0 p0])
        have BA := hidden6 ((Below.refl w3.heap.size w3).alloc (Nat.le_refl _) (.cells #[.bool m0, .slice a0 l0 p0] 38))
        go_loopg [12] len1 (fun g2 v wj => ∃ (j : Nat) (m' : Bool) (a : Option Addr) (l p : Nat) (ds : List Int), j ≤ len1 ∧ j ≤ n ∧ g2 = len1 - j ∧ v = .int .i64 (j : Int) ∧ BlkA 38 w3.heap.size wj #[.bool m', .slice a l p] ∧ Wh wj m' a l p ds (dotS (taps.take j) ((T ++ [x]).reverse.take j)) ∧ l ≤ 3 + 7 * j ∧ Below w3.heap.size w3 wj)
        case atStart => exact ⟨0, m0, a0, l0, p0, d0, Nat.zero_le _, Nat.zero_le _, rfl, rfl, V0.out, W3.out.below BA.out, hl0, BA.out⟩
        case round =>
          clear V0 W3 BA
          obtain ⟨j, m', a, l, p', ds, hj1, hj2, rfl, rfl, hV, hW, hl, hBj⟩ := hrel
          have HV := hidden6 hV
          have HW := hidden6 hW
          have HBj := hidden6 hBj
          have v0 := hV.cell (k := 0) rfl
          have v1 := hV.cell (k := 1) rfl
          have BBj := hidden6 (F3.out.bel.trans (hBj.mono F3.out.bel.size))
          clear hV hW hBj
          by_cases hlt2 : j < len1 ∧ j < n
          · obtain ⟨hl3, hl4⟩ := hlt2
            have hj3 : (j : Int) < (len1 : Int) := by omega
            have hj4 : (j : Int) < (n : Int) := by omega
            rcases HA1.out.lies with h0 | ⟨tb, tq, rfl, hct⟩
            · have := HA1.out.size; rw [h0] at this; simp at this; omega
            have ct := cell_keep6 BBj.out (hct j (by have := HA1.out.size; omega))
            obtain ⟨p, hp⟩ : ∃ p, n = p + j + 1 := ⟨n - j - 1, by omega⟩
            have hTn : (T ++ [x]).length = n := by rw [← HN.out]; simp
            have ck := cell_keep6 HBj.out (F3.out.own.nthCell (k := p) (by omega))
            have hstep : Hid (dotS (taps.take (j + 1)) ((T ++ [x]).reverse.take (j + 1)) = dotS (taps.take j) ((T ++ [x]).reverse.take j) + nth taps j * nth (T ++ [x]) p) := by
              show _ = _
              rw [dotS_step _ _ _ (by have := HA1.out.size; omega) (by simp; simp at hTn; omega)]
              congr 2
              unfold nth
              rw [List.getD_eq_getElem?_getD, List.getD_eq_getElem?_getD, List.getElem?_reverse (by omega)]
              congr 2
              omega
            have O1 : Hid (∀ W, Calls Try.prog 14 #[.int .i64 (nth taps j)] W (MadeWh W (nth taps j) 3)) := fun W => OF.out _ W (HA1.out.fits j)
            have O2 : Hid (∀ W, Calls Try.prog 14 #[.int .i64 (nth (T ++ [x]) p)] W (MadeWh W (nth (T ++ [x]) p) 3)) := fun W => OF.out _ W (by
              by_cases e : p < T.length
              · rw [nth_append_left e]; exact HT.out p
              · have e2 : p = T.length := by have := HN.out; omega
                subst e2
                unfold nth; rw [List.getD_eq_getElem?_getD, List.getElem?_append_right (Nat.le_refl _), Nat.sub_self]; exact hx)
            have hw1 : IntKind.i64.wrap ((n : Int) - 1) = (n : Int) - 1 := by rw [IntKind.wrap_i64]; have := HN.out; omega
            have hw2 : IntKind.i64.wrap ((n : Int) - 1 - (j : Int)) = (p : Int) := by rw [IntKind.wrap_i64]; have := HN.out; omega
            have hp1 : (p : Int) < (n : Int) := by omega
            have hj16 : j ≤ 16 := by omega
            clear hct hp hTn
            generalize nth taps j = x1 at *
            generalize nth (T ++ [x]) p = x2 at *
            obtain ⟨S, hSS⟩ : ∃ S, dotS (taps.take j) ((T ++ [x]).reverse.take j) = S := ⟨_, rfl⟩
            rw [hSS] at HW hstep
            clear hSS
            go_wp2
            refine wp_region_said 17 (fun i u v => match i with
                | 0 => IsWh u S (3 + 7 * j) v
                | 1 => v = .slice (some ⟨tb, tq, none⟩) len1 cap1
                | 2 => v = .int .i64 (j : Int)
                | 3 => v = .pointer (some ⟨tb, tq + j, none⟩)
                | 4 => v = .int .i64 x1
                | 5 => IsWh u x1 3 v
                | 6 => v = .slice (some ⟨kb, 0, none⟩) n c7
                | 7 => v = .slice (some ⟨kb, 0, none⟩) n c7
                | 8 => v = .int .i64 (n : Int)
                | 9 => v = .int .i64 ((n : Int) - 1)
                | 10 => v = .int .i64 (j : Int)
                | 11 => v = .int .i64 (p : Int)
                | 12 => v = .pointer (some ⟨kb, p, none⟩)
                | 13 => v = .int .i64 x2
                | 14 => IsWh u x2 3 v
                | 15 => IsWh u (x1 * x2) 6 v
                | 16 => IsWh u (S + x1 * x2) (3 + 7 * j + 6 + 1) v
                | _ => True) (by kernel_rfl) (by kernel_rfl) (by kernel_rfl) (by kernel_rfl) ?_ ?_ ?_
            · intro i w v w' h hb
              match i, h with
              | 0, h => exact IsWh.later h hb
              | 1, h => exact h
              | 2, h => exact h
              | 3, h => exact h
              | 4, h => exact h
              | 5, h => exact IsWh.later h hb
              | 6, h => exact h
              | 7, h => exact h
              | 8, h => exact h
              | 9, h => exact h
              | 10, h => exact h
              | 11, h => exact h
              | 12, h => exact h
              | 13, h => exact h
              | 14, h => exact IsWh.later h hb
              | 15, h => exact IsWh.later h hb
              | 16, h => exact IsWh.later h hb
              | _ + 17, _ => trivial
            · intro i o ρ w' hi ho hb hc hf hfr hdep
              have k0 := cell_keep6 hb v0
              have k1 := cell_keep6 hb v1
              have k2 := cell_keep6 hb ct
              have k3 := cell_keep6 hb ck
              match i, hi with
              | 0, _ =>
                simp only [List.getElem?_toArray, List.getElem?_cons_zero, Option.some.injEq] at ho
                subst ho
                have ts : ρ (.tmp 11) = .pointer (some ⟨w3.heap.size, 0, none⟩) := hfr 11 (by kernel_rfl)
                simp [go_sem, ts, k0, k1]
                exact ⟨Below.refl _ _, _, _, _, _, _, rfl, HW.out.below hb, hl⟩
              | 1, _ =>
                simp only [List.getElem?_toArray, List.getElem?_cons_zero, List.getElem?_cons_succ, Option.some.injEq] at ho
                subst ho
                have ts : ρ (.tmp 0) = .slice (some ⟨tb, tq, none⟩) len1 cap1 := hfr 0 (by kernel_rfl)
                simp [go_sem, ts]
                exact ⟨Below.refl _ _, rfl⟩
              | 2, _ =>
                simp only [List.getElem?_toArray, List.getElem?_cons_zero, List.getElem?_cons_succ, Option.some.injEq] at ho
                subst ho
                have ts : ρ (.tmp 12) = .int .i64 (j : Int) := hfr 12 (by kernel_rfl)
                simp [go_sem, ts]
                exact ⟨Below.refl _ _, rfl⟩
              | 3, _ =>
                simp only [List.getElem?_toArray, List.getElem?_cons_zero, List.getElem?_cons_succ, Option.some.injEq] at ho
                subst ho
                have t0 : ρ (.tmp 102) = .slice (some ⟨tb, tq, none⟩) len1 cap1 := hdep 1 102 (by kernel_rfl) (by kernel_rfl)
                have t1 : ρ (.tmp 103) = .int .i64 (j : Int) := hdep 2 103 (by kernel_rfl) (by kernel_rfl)
                simp [go_sem, t0, t1, hl3]
                exact ⟨Below.refl _ _, rfl⟩
              | 4, _ =>
                simp only [List.getElem?_toArray, List.getElem?_cons_zero, List.getElem?_cons_succ, Option.some.injEq] at ho
                subst ho
                have ts : ρ (.tmp 104) = .pointer (some ⟨tb, tq + j, none⟩) := hdep 3 104 (by kernel_rfl) (by kernel_rfl)
                simp [go_sem, ts, k2]
                exact ⟨Below.refl _ _, rfl⟩
              | 5, _ =>
                simp only [List.getElem?_toArray, List.getElem?_cons_zero, List.getElem?_cons_succ, Option.some.injEq] at ho
                subst ho
                have ts : ρ (.tmp 105) = .int .i64 x1 := hdep 4 105 (by kernel_rfl) (by kernel_rfl)
                simp [go_sem, ts, hf]
                exact ⟨rfl, of_said (O1.out _)⟩
              | 6, _ =>
                simp only [List.getElem?_toArray, List.getElem?_cons_zero, List.getElem?_cons_succ, Option.some.injEq] at ho
                subst ho
                have ts : ρ (.tmp 7) = .slice (some ⟨kb, 0, none⟩) n c7 := hfr 7 (by kernel_rfl)
                simp [go_sem, ts]
                exact ⟨Below.refl _ _, rfl⟩
              | 7, _ =>
                simp only [List.getElem?_toArray, List.getElem?_cons_zero, List.getElem?_cons_succ, Option.some.injEq] at ho
                subst ho
                have ts : ρ (.tmp 7) = .slice (some ⟨kb, 0, none⟩) n c7 := hfr 7 (by kernel_rfl)
                simp [go_sem, ts]
                exact ⟨Below.refl _ _, rfl⟩
              | 8, _ =>
                simp only [List.getElem?_toArray, List.getElem?_cons_zero, List.getElem?_cons_succ, Option.some.injEq] at ho
                subst ho
                have t0 : ρ (.tmp 108) = .slice (some ⟨kb, 0, none⟩) n c7 := hdep 7 108 (by kernel_rfl) (by kernel_rfl)
                simp [go_sem, t0]
                exact ⟨Below.refl _ _, rfl⟩
              | 9, _ =>
                simp only [List.getElem?_toArray, List.getElem?_cons_zero, List.getElem?_cons_succ, Option.some.injEq] at ho
                subst ho
                have t0 : ρ (.tmp 109) = .int .i64 (n : Int) := hdep 8 109 (by kernel_rfl) (by kernel_rfl)
                simp [go_sem, t0, hc, hw1]
                exact ⟨Below.refl _ _, rfl⟩
              | 10, _ =>
                simp only [List.getElem?_toArray, List.getElem?_cons_zero, List.getElem?_cons_succ, Option.some.injEq] at ho
                subst ho
                have ts : ρ (.tmp 12) = .int .i64 (j : Int) := hfr 12 (by kernel_rfl)
                simp [go_sem, ts]
                exact ⟨Below.refl _ _, rfl⟩
              | 11, _ =>
                simp only [List.getElem?_toArray, List.getElem?_cons_zero, List.getElem?_cons_succ, Option.some.injEq] at ho
                subst ho
                have t0 : ρ (.tmp 110) = .int .i64 ((n : Int) - 1) := hdep 9 110 (by kernel_rfl) (by kernel_rfl)
                have t1 : ρ (.tmp 111) = .int .i64 (j : Int) := hdep 10 111 (by kernel_rfl) (by kernel_rfl)
                simp [go_sem, t0, t1, hw2]
                exact ⟨Below.refl _ _, rfl⟩
              | 12, _ =>
                simp only [List.getElem?_toArray, List.getElem?_cons_zero, List.getElem?_cons_succ, Option.some.injEq] at ho
                subst ho
                have t0 : ρ (.tmp 107) = .slice (some ⟨kb, 0, none⟩) n c7 := hdep 6 107 (by kernel_rfl) (by kernel_rfl)
                have t1 : ρ (.tmp 112) = .int .i64 (p : Int) := hdep 11 112 (by kernel_rfl) (by kernel_rfl)
                simp [go_sem, t0, t1, hp1]
                exact ⟨Below.refl _ _, rfl⟩
              | 13, _ =>
                simp only [List.getElem?_toArray, List.getElem?_cons_zero, List.getElem?_cons_succ, Option.some.injEq] at ho
                subst ho
                have ts : ρ (.tmp 113) = .pointer (some ⟨kb, p, none⟩) := hdep 12 113 (by kernel_rfl) (by kernel_rfl)
                simp [go_sem, ts, k3]
                exact ⟨Below.refl _ _, rfl⟩
              | 14, _ =>
                simp only [List.getElem?_toArray, List.getElem?_cons_zero, List.getElem?_cons_succ, Option.some.injEq] at ho
                subst ho
                have ts : ρ (.tmp 114) = .int .i64 x2 := hdep 13 114 (by kernel_rfl) (by kernel_rfl)
                simp [go_sem, ts, hf]
                exact ⟨rfl, of_said (O2.out _)⟩
              | 15, _ =>
                simp only [List.getElem?_toArray, List.getElem?_cons_zero, List.getElem?_cons_succ, Option.some.injEq] at ho
                subst ho
                obtain ⟨m0, a0, l0, p0, d0, e0, x0, y0⟩ : IsWh w' x1 3 (ρ (.tmp 106)) := hdep 5 106 (by kernel_rfl) (by kernel_rfl)
                obtain ⟨m1, a1, l1, p1, d1, e1, x1, y1⟩ : IsWh w' x2 3 (ρ (.tmp 115)) := hdep 14 115 (by kernel_rfl) (by kernel_rfl)
                simp [go_sem, e0, e1, hf]
                exact ⟨rfl, times_said ⟨m0, a0, l0, p0, d0, rfl, x0, y0⟩ ⟨m1, a1, l1, p1, d1, rfl, x1, y1⟩ (by decide)⟩
              | 16, _ =>
                simp only [List.getElem?_toArray, List.getElem?_cons_zero, List.getElem?_cons_succ, Option.some.injEq] at ho
                subst ho
                have h0 : IsWh w' S (3 + 7 * j) (ρ (.tmp 101)) := hdep 0 101 (by kernel_rfl) (by kernel_rfl)
                have h1 : IsWh w' (x1 * x2) 6 (ρ (.tmp 116)) := hdep 15 116 (by kernel_rfl) (by kernel_rfl)
                obtain ⟨m0, a0, l0, p0, d0, e0, f0, g0⟩ := h0
                obtain ⟨m1, a1, l1, p1, d1, e1, f1, g1⟩ := h1
                simp [go_sem, e0, e1, hf]
                exact ⟨rfl, plus_said f0 f1 g0 g1 (by omega)⟩
              | _ + 17, h => exact absurd h (by omega)
            · intro V w9 q9 hS
              obtain ⟨m0, a0, l0, p0, d0, e0, f0, g0⟩ : IsWh w9 S (3 + 7 * j) (V 0) := hS 0 (by decide)
              have e1 : V 1 = .slice (some ⟨tb, tq, none⟩) len1 cap1 := hS 1 (by decide)
              have e2 : V 2 = .int .i64 (j : Int) := hS 2 (by decide)
              have e3 : V 3 = .pointer (some ⟨tb, tq + j, none⟩) := hS 3 (by decide)
              have e4 : V 4 = .int .i64 x1 := hS 4 (by decide)
              obtain ⟨m5, a5, l5, p5, d5, e5, -, -⟩ : IsWh w9 x1 3 (V 5) := hS 5 (by decide)
              have e6 : V 6 = .slice (some ⟨kb, 0, none⟩) n c7 := hS 6 (by decide)
              have e7 : V 7 = .slice (some ⟨kb, 0, none⟩) n c7 := hS 7 (by decide)
              have e8 : V 8 = .int .i64 (n : Int) := hS 8 (by decide)
              have e9 : V 9 = .int .i64 ((n : Int) - 1) := hS 9 (by decide)
              have e10 : V 10 = .int .i64 (j : Int) := hS 10 (by decide)
              have e11 : V 11 = .int .i64 (p : Int) := hS 11 (by decide)
              have e12 : V 12 = .pointer (some ⟨kb, p, none⟩) := hS 12 (by decide)
              have e13 : V 13 = .int .i64 x2 := hS 13 (by decide)
              obtain ⟨m14, a14, l14, p14, d14, e14, -, -⟩ : IsWh w9 x2 3 (V 14) := hS 14 (by decide)
              obtain ⟨m15, a15, l15, p15, d15, e15, -, -⟩ : IsWh w9 (x1 * x2) 6 (V 15) := hS 15 (by decide)
              obtain ⟨m16, a16, l16, p16, d16, e16, f16, g16⟩ : IsWh w9 (S + x1 * x2) (3 + 7 * j + 6 + 1) (V 16) := hS 16 (by decide)
              simp only [List.drop_succ_cons, List.drop_zero, List.take_succ_cons, List.take_zero, puts, e0, e1, e2, e3, e4, e5, e6, e7, e8, e9, e10, e11, e12, e13, e14, e15, e16]
              clear hS e0 e1 e2 e3 e4 e5 e6 e7 e8 e9 e10 e11 e12 e13 e14 e15 e16 V
              have V9 := HV.out.below q9
              have c0 := V9.cell (k := 0) rfl
              have c1' := V9.cell (k := 1) rfl
              have fz0 := V9.frozen 0
              have fz1 := V9.frozen 1
              have VN := hidden6 ((V9.set 0 (.bool m16)).set 1 (.slice a16 l16 p16))
              have WN := hidden6 (f16.store7 V9 (.bool m16) (.slice a16 l16 p16))
              have BN := hidden6 (((HBj.out.trans (q9.mono HBj.out.size)).setCell (p := ⟨w3.heap.size, 0, none⟩) (Nat.le_refl _) (.bool m16)).setCell (p := ⟨w3.heap.size, 1, none⟩) (Nat.le_refl _) (.slice a16 l16 p16))
              clear V9 f16
              go_wp2
              go_roundg (len1 - (j + 1))
              case measure => omega
              case rel => exact ⟨j + 1, m16, a16, l16, p16, d16, by omega, by omega, rfl, by go_num, VN.out, by rw [hstep.out]; exact WN.out, by omega, BN.out⟩
          · have hT1 : taps.length = len1 := HA1.out.size
            have hTn : (T ++ [x]).reverse.length = n := by rw [← HN.out]; simp
            have eS : dotS (taps.take j) ((T ++ [x]).reverse.take j) = y := by rw [HY.out]; exact dotS_min _ _ _ (by omega)
            rw [eS] at HW
            have IN := hidden6 (toInt_any _ _ _ _ _ _ _ HW.out)
            unfold ToInt at IN
            rw [hvy, hfy] at IN
            have F4 := hidden6 (F3.out.below HBj.out)
            have hg4 := cell_keep6 HBj.out hg3
            have hrb4 := cell_keep6 HBj.out hrb3
            have q5 : (y != y) = false := by simp
            have HT2 : Hid (InR (T ++ [x])) := fun q => by
              by_cases e : q < T.length
              · rw [nth_append_left e]; exact HT.out q
              · by_cases e2 : q = T.length
                · subst e2
                  unfold nth; rw [List.getD_eq_getElem?_getD, List.getElem?_append_right (Nat.le_refl _), Nat.sub_self]; exact hx
                · rw [nth_none (by simp; omega)]; decide
            have hnl : (T ++ [x]).length = n := by simpa using hTn
            clear eS hT1 hTn
            by_cases hl5 : j < len1
            · have hj3 : (j : Int) < (len1 : Int) := by omega
              have hj4 : ¬ (j : Int) < (n : Int) := by omega
              go_wp2_with (go_at_call 17; (with_reducible refine IN.out.mono ?_); rintro e w5 ⟨rfl, b5⟩; have hg5 := cell_keep6 b5 hg4; have hrb5 := cell_keep6 b5 hrb4)
              go_roundg (len2 - (k + 1))
              case measure => omega
              case rel => exact ⟨k + 1, T ++ [x], F', some ⟨kb, 0, none⟩, c7, by omega, rfl, by go_num, by rw [hnl], by have := HN.out; omega, HT2.out, F4.out.below b5⟩
            · have hj3 : ¬ (j : Int) < (len1 : Int) := by omega
              go_wp2_with (go_at_call 17; (with_reducible refine IN.out.mono ?_); rintro e w5 ⟨rfl, b5⟩; have hg5 := cell_keep6 b5 hg4; have hrb5 := cell_keep6 b5 hrb4)
              go_roundg (len2 - (k + 1))
              case measure => omega
              case rel => exact ⟨k + 1, T ++ [x], F', some ⟨kb, 0, none⟩, c7, by omega, rfl, by go_num, by rw [hnl], by have := HN.out; omega, HT2.out, F4.out.below b5⟩
    · have ek : k = len2 := by omega
      subst ek
      have hki : ¬ (k : Int) < (k : Int) := by omega
      have q2 : ((T.length : Int) == (T.length : Int)) = true := by simp
      go_wp2_with (first
        | (go_at_call 9; (with_reducible refine (AW.out _).mono ?_); rintro e w6 ⟨rfl, b6⟩)
        | (go_at_call 12; (with_reducible refine (FD.out F _ B K T T.length HS.out.bod).mono ?_); rintro e v ⟨rfl, hv⟩; rw [hv]; clear hv))
      go_ret
      exact ⟨rfl, HS.out.bel.trans (b6.mono HS.out.bel.size)⟩
set_option maxRecDepth 100000 in
set_option maxHeartbeats 4000000 in
theorem actorsFilters_walk (a1 : Option Addr) (len1 cap1 : Nat) (taps : List Int) (a2 : Option Addr) (len2 cap2 : Nat) (xs : List Int) (w : World) (hA1 : Arg w a1 len1 cap1 taps) (hA2 : Arg w a2 len2 cap2 xs) : Calls Try.prog 4 #[.slice a1 len1 cap1, .slice a2 len2 cap2] w fun e w' => e = .returned (.bool true) ∧ Below w.heap.size w w' := by
  by_cases h1 : 1 ≤ len1 ∧ len1 ≤ 16
  · exact filters_good a1 len1 cap1 taps a2 len2 cap2 xs w hA1 hA2 h1
  · have hok : ¬ okS 1 taps = true := fun h => h1 (by have := wB_bound (show wB (taps.length : Int) 16 = true from h); have := hA1.size; omega)
    have N1 : Hid (Calls Try.prog 8 #[.int .u8 1, .slice a1 len1 cap1] w (Refused w 61)) := (new_any 1 a1 taps len1 cap1 w (by decide) hA1.size hA1.fits hA1.none hA1.lies).mono fun _ _ h => refused_of h (by unfold ofS; rw [if_pos (by decide), if_neg hok]) (by decide)
    have AW : Hid (∀ V, Calls Try.prog 9 #[] V fun e w' => e = .returned (.bool true) ∧ Below V.heap.size V w') := fun V => awake7 V
    clear hA1 hA2 hok
    by_cases h2 : len1 < 1
    · have h3 : (len1 : Int) < 1 := by omega
      clear h1
      go_enter Try.func4, Try.ntmps4
      go_wp2_with (first
        | (go_at_call 9; (with_reducible refine (AW.out _).mono ?_); rintro e w6 ⟨rfl, b6⟩)
        | (go_at_call 8; (with_reducible refine N1.out.mono ?_); rintro e w1 ⟨rfl, b1⟩))
      go_ret
      exact ⟨rfl, b1.trans (b6.mono b1.size)⟩
    · have h3 : ¬ (len1 : Int) < 1 := by omega
      have h4 : (len1 : Int) > 16 := by omega
      clear h1
      go_enter Try.func4, Try.ntmps4
      go_wp2_with (first
        | (go_at_call 9; (with_reducible refine (AW.out _).mono ?_); rintro e w6 ⟨rfl, b6⟩)
        | (go_at_call 8; (with_reducible refine N1.out.mono ?_); rintro e w1 ⟨rfl, b1⟩))
      go_ret
      exact ⟨rfl, b1.trans (b6.mono b1.size)⟩
end Go.Proofs.Ytoenbiigamegoab

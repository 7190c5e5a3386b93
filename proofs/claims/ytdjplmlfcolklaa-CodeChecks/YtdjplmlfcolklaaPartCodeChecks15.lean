/- Texts of one chain, laid one behind the other. -/
import Derived.Test.YtdjplmlfcolklaaPartCodeChecks13
import Derived.Test.YtdjplmlfcolklaaPartCodeChecks14
import Derived.Recover
import Derived.BigQuiet
import Derived.Lib.VarintBits
import Derived.Lib.Zigzag
namespace Go.Proofs.Ytdjplmlfcolklaa
open Go.Lib Go.ChangeShapes Go.WideShapes Go.ChangeAt Go.RowKit
/-- A reader's cells where nothing is wrong yet. -/
def rdV (D : List UInt8) (j : Nat) : Array Value := #[.string (strC D), .int .i64 (j : Int), .int .i64 0, .int .i64 0]
structure RdA (R : Nat) (D : List UInt8) (j : Nat) (W u : World) : Prop where
  box : BlkA 83 R u (rdV D j)
  but : But R W u
  le : j ≤ D.length
/-- Something was wrong: it is noted. -/
structure RdZ (R : Nat) (D : List UInt8) (W : World) (c : Int) (a : Nat) (u : World) : Prop where
  box : ∃ q : Int, BlkA 83 R u #[.string (strC D), .int .i64 q, .int .i64 c, .int .i64 (a : Int)]
  but : But R W u
def fltP (c : Int) (a : Nat) : List PanicEntry := [{ v := .iface 38 (.agg #[.int .i64 c, .int .i64 (a : Int)]), recovered := false }]
/-- How a reading ends. -/
def RdE {α : Type} (R : Nat) (D : List UInt8) (W : World) (r : Except (Int × Nat) (α × Nat)) (S : α → World → Value → Prop) (e : Ending) (w' : World) : Prop :=
  match r with
  | .ok p => ∃ v, e = .returned v ∧ S p.1 w' v ∧ RdA R D p.2 W w'
  | .error x => e = .panicked (fltP x.1 x.2) ∧ RdZ R D W x.1 x.2 w'
theorem RdA.refl {R D j w} (h : BlkA 83 R w (rdV D j)) (hj : j ≤ D.length) : RdA R D j w w := ⟨h, .refl _ _, hj⟩
theorem RdA.trans {R D j k a b c} (h : RdA R D j a b) (h2 : RdA R D k b c) : RdA R D k a c := ⟨h2.box, h.but.trans h2.but, h2.le⟩
theorem RdA.transZ {R D j x y a b c} (h : RdA R D j a b) (h2 : RdZ R D b x y c) : RdZ R D a x y c := ⟨h2.box, h.but.trans h2.but⟩
theorem RdA.below {R D j a b c} (h : RdA R D j a b) (hb : Below b.heap.size b c) : RdA R D j a c := ⟨h.box.below hb, h.but.trans (.of_below hb), h.le⟩
theorem RdE.trans {α : Type} {R D j W u r} {S : α → World → Value → Prop} {e w'} (h : RdA R D j W u) (h2 : RdE R D u r S e w') : RdE R D W r S e w' := by
  unfold RdE at h2 ⊢
  cases r with
  | ok p => obtain ⟨v, q1, q2, q3⟩ := h2; exact ⟨v, q1, q2, h.trans q3⟩
  | error x => exact ⟨h2.1, h.transZ h2.2⟩
def IntV (k : IntKind) {α : Type} (f : α → Int) (x : α) (_ : World) (v : Value) : Prop := v = .int k (f x)
set_option maxRecDepth 100000 in
set_option maxHeartbeats 1000000 in
theorem rdFail_any (R : Nat) (D : List UInt8) (j : Nat) (w : World) (h : BlkA 83 R w (rdV D j)) (c : Int) (a : Nat) :
    Calls Try.prog 58 #[.pointer (some ⟨R, 0, none⟩), .int .i64 c, .int .i64 (a : Int)] w fun e w' => e = .panicked (fltP c a) ∧ RdZ R D w c a w' := by
  have H := hiddenC h
  have y2 := h.cell (k := 2) rfl
  have y3 := h.cell (k := 3) rfl
  simp only [rdV, List.getElem_toArray, List.getElem_cons_zero, List.getElem_cons_succ] at y2 y3
  have f2 := h.frozen 2
  have f3 := h.frozen 3
  obtain ⟨z, hz⟩ : ∃ z : Int, (a : Int) = z := ⟨_, rfl⟩
  have HP : Hid (fltP c a = [{ v := .iface 38 (.agg #[.int .i64 c, .int .i64 z]), recovered := false }]) := by rw [← hz]; rfl
  have HZ : Hid (RdZ R D w c a ((w.setCell ⟨R, 2, none⟩ (.int .i64 c)).setCell ⟨R, 3, none⟩ (.int .i64 z))) := by
    refine ⟨⟨(j : Int), ?_⟩, (But.set _ _ _ _).trans (But.set _ _ _ _)⟩
    rw [hz]
    exact (h.set 2 _).set 3 _
  rw [hz]
  clear h hz
  go_enter Try.func58, Try.ntmps58
  go_wp2
  exact ⟨rfl, by rw [HP.out], HZ.out⟩
theorem strC_get (l : List UInt8) (i : Nat) (h : i < (strC l).size) (h' : i < l.length) : (strC l)[i]'h = l[i]'h' := rfl
theorem But.drewN {K : Nat} {a b : World} (h : But K a b) (n : Nat) : But K a (b.drewN n) := h.trans (But.drew K b n)
theorem RdA.drew {R D j a b} (h : RdA R D j a b) (n : Nat) : RdA R D j a (b.drewN n) := ⟨h.box, h.but.drewN n, h.le⟩
set_option maxRecDepth 100000 in
set_option maxHeartbeats 2000000 in
theorem rdNext_any (R : Nat) (D : List UInt8) (j : Nat) (w : World) (h : BlkA 83 R w (rdV D j)) (hj : j ≤ D.length) (hD : D.length ≤ 4611686018427387904) :
    Calls Try.prog 82 #[.pointer (some ⟨R, 0, none⟩)] w (RdE R D w (byteR D j) (IntV .u8 (fun n : Nat => (n : Int)))) := by
  have mixed : Try.prog.follows .mixedOrders = true := by kernel_rfl
  have hRl := h.lt
  have y0 := h.cell (k := 0) rfl
  have y1 := h.cell (k := 1) rfl
  simp only [rdV, List.getElem_toArray, List.getElem_cons_zero, List.getElem_cons_succ] at y0 y1
  have f1 := h.frozen 1
  have e1 := strC_size D
  by_cases hlt : j < D.length
  · have hg : D[j]? = some D[j] := List.getElem?_eq_getElem hlt
    have EB : Hid (byteR D j = .ok (D[j].toNat, j + 1)) := by show _ = _; unfold byteR; rw [hg]
    have ge := strC_get D j (by rw [e1]; exact hlt) hlt
    obtain ⟨b, hb⟩ : ∃ b, D[j] = b := ⟨_, rfl⟩
    rw [hb] at EB ge
    rw [EB.out]
    have hne : ((j : Int) == (D.length : Int)) = false := by simp; omega
    have hji : (j : Int) < (D.length : Int) := by omega
    have hj0 : (0 : Int) ≤ (j : Int) := by omega
    have hw : IntKind.i64.wrap ((j : Int) + 1) = ((j + 1 : Nat) : Int) := by rw [wrapC]; unfold wrap64; omega
    have FIN : Hid (∀ q u, u = w.drewN q → RdA R D (j + 1) w (u.setCell ⟨R, 1, none⟩ (.int .i64 ((j : Int) + 1)))) := fun q u hu => by
      subst hu
      have h2 : BlkA 83 R (w.drewN q) (rdV D j) := h
      have e : ((j + 1 : Nat) : Int) = (j : Int) + 1 := by omega
      refine ⟨?_, (But.drew R w q).trans (But.set _ _ _ _), hlt⟩
      have h3 := h2.set 1 (.int .i64 ((j : Int) + 1))
      unfold rdV
      rw [e]
      exact h3
    clear h hg hb hD hj EB
    go_enter Try.func82, Try.ntmps82
    go_wp2
    go_quiet (fail)
    go_wp2
    go_quiet (fail)
    go_wp2
    go_ret
    exact ⟨_, rfl, rfl, FIN.out _ _ rfl⟩
  · have hje : j = D.length := by omega
    have EB : Hid (byteR D j = .error (203, D.length)) := by show _ = _; unfold byteR; rw [List.getElem?_eq_none (by omega)]
    have hne : ((j : Int) == (D.length : Int)) = true := by simp; omega
    have FA : Hid (∀ q, Calls Try.prog 58 #[.pointer (some ⟨R, 0, none⟩), .int .i64 203, .int .i64 (j : Int)] (w.drewN q) fun e w' => e = .panicked (fltP 203 D.length) ∧ RdZ R D w 203 D.length w') := fun q => by
      have h2 : BlkA 83 R (w.drewN q) (rdV D j) := h
      refine (rdFail_any R D j (w.drewN q) h2 203 j).mono fun e w' hh => ?_
      rw [← hje]
      exact ⟨hh.1, hh.2.box, (But.drew R w q).trans hh.2.but⟩
    rw [EB.out]
    clear h hD hj EB hlt hje
    go_enter Try.func82, Try.ntmps82
    go_wp2
    go_quiet (fail)
    go_wp2_with (go_at_call 58; (with_reducible refine (FA.out _).mono ?_); rintro e w2 ⟨rfl, h2⟩; have H2 := hiddenC h2; clear h2)
    exact ⟨rfl, rfl, H2.out⟩
set_option maxRecDepth 100000 in
theorem ends_any (b i : Nat) (w : World) : Calls Try.prog 89 #[.int .u8 (b : Int), .int .i64 (i : Int)] w fun e w' => e = .returned (.bool (endB b i)) ∧ w' = w := by
  by_cases h9 : i = 9
  · have q9 : ((i : Int) == 9) = true := by simp; omega
    by_cases h1 : b = 1
    · have q1 : ((b : Int) == 1) = true := by simp; omega
      have E : endB b i = true := by unfold endB; rw [if_pos h9]; exact decide_eq_true h1
      rw [E]
      clear h9 h1 E
      go_enter Try.func89, Try.ntmps89
      go_wp2
      go_ret
      exact ⟨rfl, rfl⟩
    · have q1 : ((b : Int) == 1) = false := by simp; omega
      have E : endB b i = false := by unfold endB; rw [if_pos h9]; exact decide_eq_false h1
      rw [E]
      clear h9 h1 E
      go_enter Try.func89, Try.ntmps89
      go_wp2
      go_ret
      exact ⟨rfl, rfl⟩
  · have q9 : ((i : Int) == 9) = false := by simp; omega
    by_cases h1 : 0 < b
    · have q1 : (b : Int) > 0 := by omega
      have E : endB b i = true := by unfold endB; rw [if_neg h9, decide_eq_true h1]; rfl
      rw [E]
      clear h9 h1 E
      go_enter Try.func89, Try.ntmps89
      go_wp2
      go_ret
      exact ⟨rfl, rfl⟩
    · have q1 : ¬ (b : Int) > 0 := by omega
      by_cases h0 : i = 0
      · have q0 : ((i : Int) == 0) = true := by simp; omega
        have E : endB b i = true := by unfold endB; rw [if_neg h9, decide_eq_true h0, Bool.or_true]
        rw [E]
        clear h9 h1 E h0
        go_enter Try.func89, Try.ntmps89
        go_wp2
        go_ret
        exact ⟨rfl, rfl⟩
      · have q0 : ((i : Int) == 0) = false := by simp; omega
        have E : endB b i = false := by unfold endB; rw [if_neg h9, decide_eq_false h0, decide_eq_false h1]; rfl
        rw [E]
        clear h9 h1 E h0
        go_enter Try.func89, Try.ntmps89
        go_wp2
        go_ret
        exact ⟨rfl, rfl⟩
theorem numF_none {first f i acc : Nat} {D : List UInt8} {j : Nat} (h : D[j]? = none) : numF first (f + 1) i acc D j = .error (203, D.length) := by
  unfold numF; rw [h]
theorem numF_end {first f i acc : Nat} {D : List UInt8} {j : Nat} {b : UInt8} (h : D[j]? = some b) (hb : b.toNat < 128) (he : endB b.toNat i = true) : numF first (f + 1) i acc D j = .ok (acc + b.toNat * 128 ^ i, j + 1) := by
  unfold numF; simp only [h]; rw [if_pos hb, if_pos he]
theorem numF_bad {first f i acc : Nat} {D : List UInt8} {j : Nat} {b : UInt8} (h : D[j]? = some b) (hb : b.toNat < 128) (he : endB b.toNat i = false) : numF first (f + 1) i acc D j = .error (41, first) := by
  unfold numF; simp only [h]; rw [if_pos hb, if_neg (by rw [he]; decide)]
theorem numF_more {first f i acc : Nat} {D : List UInt8} {j : Nat} {b : UInt8} (h : D[j]? = some b) (hb : ¬ b.toNat < 128) : numF first (f + 1) i acc D j = numF first f (i + 1) (acc + (b.toNat - 128) * 128 ^ i) D (j + 1) := by
  conv => lhs; unfold numF
  simp only [h]; rw [if_neg hb]
theorem byte_some {D : List UInt8} {j : Nat} {b : UInt8} (h : D[j]? = some b) : byteR D j = .ok (b.toNat, j + 1) := by unfold byteR; rw [h]
theorem byte_none {D : List UInt8} {j : Nat} (h : D[j]? = none) : byteR D j = .error (203, D.length) := by unfold byteR; rw [h]
set_option maxRecDepth 100000 in
set_option maxHeartbeats 16000000 in
theorem rdNumber_any (R : Nat) (D : List UInt8) (j : Nat) (w : World) (h : BlkA 83 R w (rdV D j)) (hj : j ≤ D.length) (hD : D.length ≤ 4611686018427387904) (M : Nat) (hM : M ≤ 10) :
    Calls Try.prog 80 #[.pointer (some ⟨R, 0, none⟩), .int .i64 (M : Int)] w (RdE R D w (numR M D j) (IntV .u64 (fun n : Nat => (n : Int)))) := by
  obtain ⟨PE, hPE⟩ : ∃ Q : Ending → World → Prop, RdE R D w (numR M D j) (IntV .u64 (fun n : Nat => (n : Int))) = Q := ⟨_, rfl⟩
  rw [hPE]
  have HPE := hiddenC hPE
  have H := hiddenC (RdA.refl h hj)
  have HD := hiddenC hD
  have y1 := h.cell (k := 1) rfl
  simp only [rdV, List.getElem_toArray, List.getElem_cons_zero, List.getElem_cons_succ] at y1
  have NX : Hid (∀ k U, RdA R D k w U → Calls Try.prog 82 #[.pointer (some ⟨R, 0, none⟩)] U (RdE R D w (byteR D k) (IntV .u8 (fun n : Nat => (n : Int))))) := fun k U hU => (rdNext_any R D k U hU.box hU.le hD).mono fun e w' hh => hh.trans hU
  have FA : Hid (∀ k U, RdA R D k w U → Calls Try.prog 58 #[.pointer (some ⟨R, 0, none⟩), .int .i64 41, .int .i64 (j : Int)] U fun e w' => e = .panicked (fltP 41 j) ∧ RdZ R D w 41 j w') := fun k U hU => (rdFail_any R D k U hU.box 41 j).mono fun e w' hh => ⟨hh.1, hU.transZ hh.2⟩
  have EN : Hid (∀ (b i : Nat) U, Calls Try.prog 89 #[.int .u8 (b : Int), .int .i64 (i : Int)] U fun e w' => e = .returned (.bool (endB b i)) ∧ w' = U) := fun b i U => ends_any b i U
  clear hPE h hj hD
  go_enter Try.func80, Try.ntmps80
  go_wp2
  clear y1
  go_loopg [6, 14] M (fun gk u v wr => ∃ (k : Nat) (z : Int) (acc : Nat), k ≤ M ∧ gk = M - k ∧ u = .int .u64 z ∧ v = .int .i64 (k : Int) ∧ (k ≤ 9 → z = (acc : Int) ∧ acc < 128 ^ k) ∧ numR M D j = numF j (M - k) k acc D (j + k) ∧ RdA R D (j + k) w wr)
  case atStart => exact ⟨0, 0, 0, Nat.zero_le _, rfl, rfl, rfl, fun _ => ⟨rfl, by decide⟩, rfl, H.out⟩
  case round =>
    obtain ⟨k, z, acc, hk, rfl, rfl, rfl, hza, he, hA⟩ := hrel
    have HE := hiddenC he
    have HA := hiddenC hA
    clear he hA
    by_cases hlt : k < M
    · have hki : (k : Int) < (M : Int) := by omega
      have hMk : M - k = (M - (k + 1)) + 1 := by omega
      obtain ⟨rfl, hacc⟩ := hza (by omega)
      have NX1 := hiddenC (NX.out _ _ HA.out)
      cases hb : D[j + k]? with
      | none =>
        rw [byte_none hb] at NX1
        have ER : Hid (numR M D j = .error (203, D.length)) := by
          have q := HE.out
          rw [hMk, numF_none hb] at q
          exact q
        clear HE hza hacc hMk hb NX FA EN
        go_wp2_with (go_at_call 82; (with_reducible refine NX1.out.mono ?_); rintro e w2 ⟨rfl, h2⟩; have H2 := hiddenC h2; clear h2)
        refine ⟨rfl, ?_⟩
        rw [← HPE.out, ER.out]
        exact ⟨rfl, H2.out⟩
      | some b =>
        rw [byte_some hb] at NX1
        have HE2 := HE.out
        rw [hMk] at HE2
        have hb256 : b.toNat < 256 := b.toNat_lt
        have NX2 : Hid (Calls Try.prog 82 #[.pointer (some ⟨R, 0, none⟩)] wr fun e w' => e = .returned (.int .u8 (b.toNat : Int)) ∧ RdA R D (j + k + 1) w w') := NX1.out.mono fun e w' hh => by
          obtain ⟨v, h1, h2, h3⟩ := hh
          exact ⟨by rw [h1]; exact congrArg _ h2, h3⟩
        by_cases hlo : b.toNat < 128
        · have EN1 := hiddenC (EN.out b.toNat k)
          cases hen : endB b.toNat k with
          | true =>
            rw [hen] at EN1
            have ER : Hid (numR M D j = .ok (acc + b.toNat * 128 ^ k, j + k + 1)) := by show _ = _; rw [HE2, numF_end hb hlo hen]
            have h9 : k = 9 → b.toNat = 1 := fun e => by
              unfold endB at hen
              rw [if_pos e] at hen
              exact of_decide_eq_true hen
            clear HE HE2 hza hMk hb NX NX1 FA EN hen
            generalize b.toNat = n at *
            have hni : (n : Int) < 128 := by omega
            have hks : k = 0 ∨ k = 1 ∨ k = 2 ∨ k = 3 ∨ k = 4 ∨ k = 5 ∨ k = 6 ∨ k = 7 ∨ k = 8 ∨ k = 9 := by omega
            rcases hks with rfl | rfl | rfl | rfl | rfl | rfl | rfl | rfl | rfl | rfl
            · have hp : (128 : Nat) ^ 0 = 1 := by decide
              obtain rfl : acc = 0 := by simpa using hacc
              have ha : bits .and .u8 (n : Int) 127 = (n : Int) % 128 := u8_and127 _ (by omega) (by omega)
              have hv : bits .or .u64 0 ((n : Int) % 128) = ((0 + n * 1 : Nat) : Int) := by
                rw [u64_orv0 _ _ (by omega) (by omega) (by omega) (by omega) (by omega)]
                omega
              have EN2 : Hid (∀ U, Calls Try.prog 89 #[.int .u8 (n : Int), .int .i64 0] U fun e w' => e = .returned (.bool true) ∧ w' = U) := EN1.out
              rw [hp] at ER
              obtain ⟨x, hx⟩ : ∃ x, 0 + n * 1 = x := ⟨_, rfl⟩
              rw [hx] at ER hv
              clear hx hp h9 EN1
              go_wp2_with (first | (go_at_call 89; (with_reducible refine (EN2.out _).mono ?_); rintro e w3 ⟨rfl, hw3⟩; rw [hw3]; clear hw3 w3) | (go_at_call 82; (with_reducible refine NX2.out.mono ?_); rintro e w2 ⟨rfl, h2⟩; have H2 := hiddenC h2; clear h2))
              rw [← HPE.out, ER.out]
              exact ⟨_, rfl, rfl, H2.out⟩
            · have hp : (128 : Nat) ^ 1 = 128 := by decide
              have hacc2 : acc < 128 := by rw [hp] at hacc; exact hacc
              clear hacc
              have ha : bits .and .u8 (n : Int) 127 = (n : Int) % 128 := u8_and127 _ (by omega) (by omega)
              have hv : bits .or .u64 (acc : Int) ((n : Int) % 128 * 128) = ((acc + n * 128 : Nat) : Int) := by
                rw [u64_orv7 _ _ (by omega) (by omega) (by omega) (by omega) (by omega)]
                omega
              have EN2 : Hid (∀ U, Calls Try.prog 89 #[.int .u8 (n : Int), .int .i64 1] U fun e w' => e = .returned (.bool true) ∧ w' = U) := EN1.out
              rw [hp] at ER
              obtain ⟨x, hx⟩ : ∃ x, acc + n * 128 = x := ⟨_, rfl⟩
              rw [hx] at ER hv
              clear hx hp h9 EN1
              go_wp2_with (first | (go_at_call 89; (with_reducible refine (EN2.out _).mono ?_); rintro e w3 ⟨rfl, hw3⟩; rw [hw3]; clear hw3 w3) | (go_at_call 82; (with_reducible refine NX2.out.mono ?_); rintro e w2 ⟨rfl, h2⟩; have H2 := hiddenC h2; clear h2))
              rw [← HPE.out, ER.out]
              exact ⟨_, rfl, rfl, H2.out⟩
            · have hp : (128 : Nat) ^ 2 = 16384 := by decide
              have hacc2 : acc < 16384 := by rw [hp] at hacc; exact hacc
              clear hacc
              have ha : bits .and .u8 (n : Int) 127 = (n : Int) % 128 := u8_and127 _ (by omega) (by omega)
              have hv : bits .or .u64 (acc : Int) ((n : Int) % 128 * 16384) = ((acc + n * 16384 : Nat) : Int) := by
                rw [u64_orv14 _ _ (by omega) (by omega) (by omega) (by omega) (by omega)]
                omega
              have EN2 : Hid (∀ U, Calls Try.prog 89 #[.int .u8 (n : Int), .int .i64 2] U fun e w' => e = .returned (.bool true) ∧ w' = U) := EN1.out
              rw [hp] at ER
              obtain ⟨x, hx⟩ : ∃ x, acc + n * 16384 = x := ⟨_, rfl⟩
              rw [hx] at ER hv
              clear hx hp h9 EN1
              go_wp2_with (first | (go_at_call 89; (with_reducible refine (EN2.out _).mono ?_); rintro e w3 ⟨rfl, hw3⟩; rw [hw3]; clear hw3 w3) | (go_at_call 82; (with_reducible refine NX2.out.mono ?_); rintro e w2 ⟨rfl, h2⟩; have H2 := hiddenC h2; clear h2))
              rw [← HPE.out, ER.out]
              exact ⟨_, rfl, rfl, H2.out⟩
            · have hp : (128 : Nat) ^ 3 = 2097152 := by decide
              have hacc2 : acc < 2097152 := by rw [hp] at hacc; exact hacc
              clear hacc
              have ha : bits .and .u8 (n : Int) 127 = (n : Int) % 128 := u8_and127 _ (by omega) (by omega)
              have hv : bits .or .u64 (acc : Int) ((n : Int) % 128 * 2097152) = ((acc + n * 2097152 : Nat) : Int) := by
                rw [u64_orv21 _ _ (by omega) (by omega) (by omega) (by omega) (by omega)]
                omega
              have EN2 : Hid (∀ U, Calls Try.prog 89 #[.int .u8 (n : Int), .int .i64 3] U fun e w' => e = .returned (.bool true) ∧ w' = U) := EN1.out
              rw [hp] at ER
              obtain ⟨x, hx⟩ : ∃ x, acc + n * 2097152 = x := ⟨_, rfl⟩
              rw [hx] at ER hv
              clear hx hp h9 EN1
              go_wp2_with (first | (go_at_call 89; (with_reducible refine (EN2.out _).mono ?_); rintro e w3 ⟨rfl, hw3⟩; rw [hw3]; clear hw3 w3) | (go_at_call 82; (with_reducible refine NX2.out.mono ?_); rintro e w2 ⟨rfl, h2⟩; have H2 := hiddenC h2; clear h2))
              rw [← HPE.out, ER.out]
              exact ⟨_, rfl, rfl, H2.out⟩
            · have hp : (128 : Nat) ^ 4 = 268435456 := by decide
              have hacc2 : acc < 268435456 := by rw [hp] at hacc; exact hacc
              clear hacc
              have ha : bits .and .u8 (n : Int) 127 = (n : Int) % 128 := u8_and127 _ (by omega) (by omega)
              have hv : bits .or .u64 (acc : Int) ((n : Int) % 128 * 268435456) = ((acc + n * 268435456 : Nat) : Int) := by
                rw [u64_orv28 _ _ (by omega) (by omega) (by omega) (by omega) (by omega)]
                omega
              have EN2 : Hid (∀ U, Calls Try.prog 89 #[.int .u8 (n : Int), .int .i64 4] U fun e w' => e = .returned (.bool true) ∧ w' = U) := EN1.out
              rw [hp] at ER
              obtain ⟨x, hx⟩ : ∃ x, acc + n * 268435456 = x := ⟨_, rfl⟩
              rw [hx] at ER hv
              clear hx hp h9 EN1
              go_wp2_with (first | (go_at_call 89; (with_reducible refine (EN2.out _).mono ?_); rintro e w3 ⟨rfl, hw3⟩; rw [hw3]; clear hw3 w3) | (go_at_call 82; (with_reducible refine NX2.out.mono ?_); rintro e w2 ⟨rfl, h2⟩; have H2 := hiddenC h2; clear h2))
              rw [← HPE.out, ER.out]
              exact ⟨_, rfl, rfl, H2.out⟩
            · have hp : (128 : Nat) ^ 5 = 34359738368 := by decide
              have hacc2 : acc < 34359738368 := by rw [hp] at hacc; exact hacc
              clear hacc
              have ha : bits .and .u8 (n : Int) 127 = (n : Int) % 128 := u8_and127 _ (by omega) (by omega)
              have hv : bits .or .u64 (acc : Int) ((n : Int) % 128 * 34359738368) = ((acc + n * 34359738368 : Nat) : Int) := by
                rw [u64_orv35 _ _ (by omega) (by omega) (by omega) (by omega) (by omega)]
                omega
              have EN2 : Hid (∀ U, Calls Try.prog 89 #[.int .u8 (n : Int), .int .i64 5] U fun e w' => e = .returned (.bool true) ∧ w' = U) := EN1.out
              rw [hp] at ER
              obtain ⟨x, hx⟩ : ∃ x, acc + n * 34359738368 = x := ⟨_, rfl⟩
              rw [hx] at ER hv
              clear hx hp h9 EN1
              go_wp2_with (first | (go_at_call 89; (with_reducible refine (EN2.out _).mono ?_); rintro e w3 ⟨rfl, hw3⟩; rw [hw3]; clear hw3 w3) | (go_at_call 82; (with_reducible refine NX2.out.mono ?_); rintro e w2 ⟨rfl, h2⟩; have H2 := hiddenC h2; clear h2))
              rw [← HPE.out, ER.out]
              exact ⟨_, rfl, rfl, H2.out⟩
            · have hp : (128 : Nat) ^ 6 = 4398046511104 := by decide
              have hacc2 : acc < 4398046511104 := by rw [hp] at hacc; exact hacc
              clear hacc
              have ha : bits .and .u8 (n : Int) 127 = (n : Int) % 128 := u8_and127 _ (by omega) (by omega)
              have hv : bits .or .u64 (acc : Int) ((n : Int) % 128 * 4398046511104) = ((acc + n * 4398046511104 : Nat) : Int) := by
                rw [u64_orv42 _ _ (by omega) (by omega) (by omega) (by omega) (by omega)]
                omega
              have EN2 : Hid (∀ U, Calls Try.prog 89 #[.int .u8 (n : Int), .int .i64 6] U fun e w' => e = .returned (.bool true) ∧ w' = U) := EN1.out
              rw [hp] at ER
              obtain ⟨x, hx⟩ : ∃ x, acc + n * 4398046511104 = x := ⟨_, rfl⟩
              rw [hx] at ER hv
              clear hx hp h9 EN1
              go_wp2_with (first | (go_at_call 89; (with_reducible refine (EN2.out _).mono ?_); rintro e w3 ⟨rfl, hw3⟩; rw [hw3]; clear hw3 w3) | (go_at_call 82; (with_reducible refine NX2.out.mono ?_); rintro e w2 ⟨rfl, h2⟩; have H2 := hiddenC h2; clear h2))
              rw [← HPE.out, ER.out]
              exact ⟨_, rfl, rfl, H2.out⟩
            · have hp : (128 : Nat) ^ 7 = 562949953421312 := by decide
              have hacc2 : acc < 562949953421312 := by rw [hp] at hacc; exact hacc
              clear hacc
              have ha : bits .and .u8 (n : Int) 127 = (n : Int) % 128 := u8_and127 _ (by omega) (by omega)
              have hv : bits .or .u64 (acc : Int) ((n : Int) % 128 * 562949953421312) = ((acc + n * 562949953421312 : Nat) : Int) := by
                rw [u64_orv49 _ _ (by omega) (by omega) (by omega) (by omega) (by omega)]
                omega
              have EN2 : Hid (∀ U, Calls Try.prog 89 #[.int .u8 (n : Int), .int .i64 7] U fun e w' => e = .returned (.bool true) ∧ w' = U) := EN1.out
              rw [hp] at ER
              obtain ⟨x, hx⟩ : ∃ x, acc + n * 562949953421312 = x := ⟨_, rfl⟩
              rw [hx] at ER hv
              clear hx hp h9 EN1
              go_wp2_with (first | (go_at_call 89; (with_reducible refine (EN2.out _).mono ?_); rintro e w3 ⟨rfl, hw3⟩; rw [hw3]; clear hw3 w3) | (go_at_call 82; (with_reducible refine NX2.out.mono ?_); rintro e w2 ⟨rfl, h2⟩; have H2 := hiddenC h2; clear h2))
              rw [← HPE.out, ER.out]
              exact ⟨_, rfl, rfl, H2.out⟩
            · have hp : (128 : Nat) ^ 8 = 72057594037927936 := by decide
              have hacc2 : acc < 72057594037927936 := by rw [hp] at hacc; exact hacc
              clear hacc
              have ha : bits .and .u8 (n : Int) 127 = (n : Int) % 128 := u8_and127 _ (by omega) (by omega)
              have hv : bits .or .u64 (acc : Int) ((n : Int) % 128 * 72057594037927936) = ((acc + n * 72057594037927936 : Nat) : Int) := by
                rw [u64_orv56 _ _ (by omega) (by omega) (by omega) (by omega) (by omega)]
                omega
              have EN2 : Hid (∀ U, Calls Try.prog 89 #[.int .u8 (n : Int), .int .i64 8] U fun e w' => e = .returned (.bool true) ∧ w' = U) := EN1.out
              rw [hp] at ER
              obtain ⟨x, hx⟩ : ∃ x, acc + n * 72057594037927936 = x := ⟨_, rfl⟩
              rw [hx] at ER hv
              clear hx hp h9 EN1
              go_wp2_with (first | (go_at_call 89; (with_reducible refine (EN2.out _).mono ?_); rintro e w3 ⟨rfl, hw3⟩; rw [hw3]; clear hw3 w3) | (go_at_call 82; (with_reducible refine NX2.out.mono ?_); rintro e w2 ⟨rfl, h2⟩; have H2 := hiddenC h2; clear h2))
              rw [← HPE.out, ER.out]
              exact ⟨_, rfl, rfl, H2.out⟩
            · have hp : (128 : Nat) ^ 9 = 9223372036854775808 := by decide
              have hacc2 : acc < 9223372036854775808 := by rw [hp] at hacc; exact hacc
              clear hacc
              have ha : bits .and .u8 (n : Int) 127 = (n : Int) % 128 := u8_and127 _ (by omega) (by omega)
              have hn1 := h9 rfl
              have hn2 : n ≤ 1 := by omega
              have hn3 : 1 ≤ n := by omega
              clear hn1
              have hv : bits .or .u64 (acc : Int) ((n : Int) % 128 * 9223372036854775808) = ((acc + n * 9223372036854775808 : Nat) : Int) := by
                rw [u64_orv63 _ _ (by omega) (by omega) (by omega) (by omega) (by omega)]
                omega
              have EN2 : Hid (∀ U, Calls Try.prog 89 #[.int .u8 (n : Int), .int .i64 9] U fun e w' => e = .returned (.bool true) ∧ w' = U) := EN1.out
              rw [hp] at ER
              obtain ⟨x, hx⟩ : ∃ x, acc + n * 9223372036854775808 = x := ⟨_, rfl⟩
              rw [hx] at ER hv
              clear hx hp h9 EN1
              go_wp2_with (first | (go_at_call 89; (with_reducible refine (EN2.out _).mono ?_); rintro e w3 ⟨rfl, hw3⟩; rw [hw3]; clear hw3 w3) | (go_at_call 82; (with_reducible refine NX2.out.mono ?_); rintro e w2 ⟨rfl, h2⟩; have H2 := hiddenC h2; clear h2))
              rw [← HPE.out, ER.out]
              exact ⟨_, rfl, rfl, H2.out⟩
          | false =>
            rw [hen] at EN1
            have ER : Hid (numR M D j = .error (41, j)) := by show _ = _; rw [HE2, numF_bad hb hlo hen]
            clear HE HE2 hza hMk hb NX NX1 EN hen hacc
            generalize b.toNat = n at *
            have hni : (n : Int) < 128 := by omega
            have hks : k = 0 ∨ k = 1 ∨ k = 2 ∨ k = 3 ∨ k = 4 ∨ k = 5 ∨ k = 6 ∨ k = 7 ∨ k = 8 ∨ k = 9 := by omega
            rcases hks with rfl | rfl | rfl | rfl | rfl | rfl | rfl | rfl | rfl | rfl
            · have EN2 : Hid (∀ U, Calls Try.prog 89 #[.int .u8 (n : Int), .int .i64 0] U fun e w' => e = .returned (.bool false) ∧ w' = U) := EN1.out
              clear EN1
              go_wp2_with (first | (go_at_call 58; (with_reducible refine (FA.out _ _ H2.out).mono ?_); rintro e w4 ⟨rfl, h4⟩; have H4 := hiddenC h4; clear h4) | (go_at_call 89; (with_reducible refine (EN2.out _).mono ?_); rintro e w3 ⟨rfl, hw3⟩; rw [hw3]; clear hw3 w3) | (go_at_call 82; (with_reducible refine NX2.out.mono ?_); rintro e w2 ⟨rfl, h2⟩; have H2 := hiddenC h2; clear h2))
              refine ⟨rfl, ?_⟩
              rw [← HPE.out, ER.out]
              exact ⟨rfl, H4.out⟩
            · have EN2 : Hid (∀ U, Calls Try.prog 89 #[.int .u8 (n : Int), .int .i64 1] U fun e w' => e = .returned (.bool false) ∧ w' = U) := EN1.out
              clear EN1
              go_wp2_with (first | (go_at_call 58; (with_reducible refine (FA.out _ _ H2.out).mono ?_); rintro e w4 ⟨rfl, h4⟩; have H4 := hiddenC h4; clear h4) | (go_at_call 89; (with_reducible refine (EN2.out _).mono ?_); rintro e w3 ⟨rfl, hw3⟩; rw [hw3]; clear hw3 w3) | (go_at_call 82; (with_reducible refine NX2.out.mono ?_); rintro e w2 ⟨rfl, h2⟩; have H2 := hiddenC h2; clear h2))
              refine ⟨rfl, ?_⟩
              rw [← HPE.out, ER.out]
              exact ⟨rfl, H4.out⟩
            · have EN2 : Hid (∀ U, Calls Try.prog 89 #[.int .u8 (n : Int), .int .i64 2] U fun e w' => e = .returned (.bool false) ∧ w' = U) := EN1.out
              clear EN1
              go_wp2_with (first | (go_at_call 58; (with_reducible refine (FA.out _ _ H2.out).mono ?_); rintro e w4 ⟨rfl, h4⟩; have H4 := hiddenC h4; clear h4) | (go_at_call 89; (with_reducible refine (EN2.out _).mono ?_); rintro e w3 ⟨rfl, hw3⟩; rw [hw3]; clear hw3 w3) | (go_at_call 82; (with_reducible refine NX2.out.mono ?_); rintro e w2 ⟨rfl, h2⟩; have H2 := hiddenC h2; clear h2))
              refine ⟨rfl, ?_⟩
              rw [← HPE.out, ER.out]
              exact ⟨rfl, H4.out⟩
            · have EN2 : Hid (∀ U, Calls Try.prog 89 #[.int .u8 (n : Int), .int .i64 3] U fun e w' => e = .returned (.bool false) ∧ w' = U) := EN1.out
              clear EN1
              go_wp2_with (first | (go_at_call 58; (with_reducible refine (FA.out _ _ H2.out).mono ?_); rintro e w4 ⟨rfl, h4⟩; have H4 := hiddenC h4; clear h4) | (go_at_call 89; (with_reducible refine (EN2.out _).mono ?_); rintro e w3 ⟨rfl, hw3⟩; rw [hw3]; clear hw3 w3) | (go_at_call 82; (with_reducible refine NX2.out.mono ?_); rintro e w2 ⟨rfl, h2⟩; have H2 := hiddenC h2; clear h2))
              refine ⟨rfl, ?_⟩
              rw [← HPE.out, ER.out]
              exact ⟨rfl, H4.out⟩
            · have EN2 : Hid (∀ U, Calls Try.prog 89 #[.int .u8 (n : Int), .int .i64 4] U fun e w' => e = .returned (.bool false) ∧ w' = U) := EN1.out
              clear EN1
              go_wp2_with (first | (go_at_call 58; (with_reducible refine (FA.out _ _ H2.out).mono ?_); rintro e w4 ⟨rfl, h4⟩; have H4 := hiddenC h4; clear h4) | (go_at_call 89; (with_reducible refine (EN2.out _).mono ?_); rintro e w3 ⟨rfl, hw3⟩; rw [hw3]; clear hw3 w3) | (go_at_call 82; (with_reducible refine NX2.out.mono ?_); rintro e w2 ⟨rfl, h2⟩; have H2 := hiddenC h2; clear h2))
              refine ⟨rfl, ?_⟩
              rw [← HPE.out, ER.out]
              exact ⟨rfl, H4.out⟩
            · have EN2 : Hid (∀ U, Calls Try.prog 89 #[.int .u8 (n : Int), .int .i64 5] U fun e w' => e = .returned (.bool false) ∧ w' = U) := EN1.out
              clear EN1
              go_wp2_with (first | (go_at_call 58; (with_reducible refine (FA.out _ _ H2.out).mono ?_); rintro e w4 ⟨rfl, h4⟩; have H4 := hiddenC h4; clear h4) | (go_at_call 89; (with_reducible refine (EN2.out _).mono ?_); rintro e w3 ⟨rfl, hw3⟩; rw [hw3]; clear hw3 w3) | (go_at_call 82; (with_reducible refine NX2.out.mono ?_); rintro e w2 ⟨rfl, h2⟩; have H2 := hiddenC h2; clear h2))
              refine ⟨rfl, ?_⟩
              rw [← HPE.out, ER.out]
              exact ⟨rfl, H4.out⟩
            · have EN2 : Hid (∀ U, Calls Try.prog 89 #[.int .u8 (n : Int), .int .i64 6] U fun e w' => e = .returned (.bool false) ∧ w' = U) := EN1.out
              clear EN1
              go_wp2_with (first | (go_at_call 58; (with_reducible refine (FA.out _ _ H2.out).mono ?_); rintro e w4 ⟨rfl, h4⟩; have H4 := hiddenC h4; clear h4) | (go_at_call 89; (with_reducible refine (EN2.out _).mono ?_); rintro e w3 ⟨rfl, hw3⟩; rw [hw3]; clear hw3 w3) | (go_at_call 82; (with_reducible refine NX2.out.mono ?_); rintro e w2 ⟨rfl, h2⟩; have H2 := hiddenC h2; clear h2))
              refine ⟨rfl, ?_⟩
              rw [← HPE.out, ER.out]
              exact ⟨rfl, H4.out⟩
            · have EN2 : Hid (∀ U, Calls Try.prog 89 #[.int .u8 (n : Int), .int .i64 7] U fun e w' => e = .returned (.bool false) ∧ w' = U) := EN1.out
              clear EN1
              go_wp2_with (first | (go_at_call 58; (with_reducible refine (FA.out _ _ H2.out).mono ?_); rintro e w4 ⟨rfl, h4⟩; have H4 := hiddenC h4; clear h4) | (go_at_call 89; (with_reducible refine (EN2.out _).mono ?_); rintro e w3 ⟨rfl, hw3⟩; rw [hw3]; clear hw3 w3) | (go_at_call 82; (with_reducible refine NX2.out.mono ?_); rintro e w2 ⟨rfl, h2⟩; have H2 := hiddenC h2; clear h2))
              refine ⟨rfl, ?_⟩
              rw [← HPE.out, ER.out]
              exact ⟨rfl, H4.out⟩
            · have EN2 : Hid (∀ U, Calls Try.prog 89 #[.int .u8 (n : Int), .int .i64 8] U fun e w' => e = .returned (.bool false) ∧ w' = U) := EN1.out
              clear EN1
              go_wp2_with (first | (go_at_call 58; (with_reducible refine (FA.out _ _ H2.out).mono ?_); rintro e w4 ⟨rfl, h4⟩; have H4 := hiddenC h4; clear h4) | (go_at_call 89; (with_reducible refine (EN2.out _).mono ?_); rintro e w3 ⟨rfl, hw3⟩; rw [hw3]; clear hw3 w3) | (go_at_call 82; (with_reducible refine NX2.out.mono ?_); rintro e w2 ⟨rfl, h2⟩; have H2 := hiddenC h2; clear h2))
              refine ⟨rfl, ?_⟩
              rw [← HPE.out, ER.out]
              exact ⟨rfl, H4.out⟩
            · have EN2 : Hid (∀ U, Calls Try.prog 89 #[.int .u8 (n : Int), .int .i64 9] U fun e w' => e = .returned (.bool false) ∧ w' = U) := EN1.out
              clear EN1
              go_wp2_with (first | (go_at_call 58; (with_reducible refine (FA.out _ _ H2.out).mono ?_); rintro e w4 ⟨rfl, h4⟩; have H4 := hiddenC h4; clear h4) | (go_at_call 89; (with_reducible refine (EN2.out _).mono ?_); rintro e w3 ⟨rfl, hw3⟩; rw [hw3]; clear hw3 w3) | (go_at_call 82; (with_reducible refine NX2.out.mono ?_); rintro e w2 ⟨rfl, h2⟩; have H2 := hiddenC h2; clear h2))
              refine ⟨rfl, ?_⟩
              rw [← HPE.out, ER.out]
              exact ⟨rfl, H4.out⟩
        · have ER : Hid (numR M D j = numF j (M - (k + 1)) (k + 1) (acc + (b.toNat - 128) * 128 ^ k) D (j + (k + 1))) := by show _ = _; rw [HE2, numF_more hb hlo, Nat.add_assoc]
          clear HE HE2 hza hMk hb NX NX1 FA EN
          generalize b.toNat = n at *
          have hni : ¬ (n : Int) < 128 := by omega
          have hks : k = 0 ∨ k = 1 ∨ k = 2 ∨ k = 3 ∨ k = 4 ∨ k = 5 ∨ k = 6 ∨ k = 7 ∨ k = 8 ∨ k = 9 := by omega
          rcases hks with rfl | rfl | rfl | rfl | rfl | rfl | rfl | rfl | rfl | rfl
          · have hp : (128 : Nat) ^ 0 = 1 := by decide
            obtain rfl : acc = 0 := by simpa using hacc
            have ha : bits .and .u8 (n : Int) 127 = (n : Int) % 128 := u8_and127 _ (by omega) (by omega)
            have hv : bits .or .u64 0 ((n : Int) % 128) = ((0 + (n - 128) * 1 : Nat) : Int) := by
              rw [u64_orv0 _ _ (by omega) (by omega) (by omega) (by omega) (by omega)]
              omega
            rw [hp] at ER
            clear hp
            go_wp2_with (go_at_call 82; (with_reducible refine NX2.out.mono ?_); rintro e w2 ⟨rfl, h2⟩; have H2 := hiddenC h2; clear h2)
            go_roundg (M - 1)
            case measure => omega
            case rel =>
              exact ⟨1, _, 0 + (n - 128) * 1, by omega, rfl, rfl, rfl, fun _ => ⟨by first | rfl | exact hv | omega, by show _ < 128; omega⟩, ER.out, H2.out⟩
          · have hp : (128 : Nat) ^ 1 = 128 := by decide
            have hacc2 : acc < 128 := by rw [hp] at hacc; exact hacc
            clear hacc
            have ha : bits .and .u8 (n : Int) 127 = (n : Int) % 128 := u8_and127 _ (by omega) (by omega)
            have hv : bits .or .u64 (acc : Int) ((n : Int) % 128 * 128) = ((acc + (n - 128) * 128 : Nat) : Int) := by
              rw [u64_orv7 _ _ (by omega) (by omega) (by omega) (by omega) (by omega)]
              omega
            rw [hp] at ER
            clear hp
            go_wp2_with (go_at_call 82; (with_reducible refine NX2.out.mono ?_); rintro e w2 ⟨rfl, h2⟩; have H2 := hiddenC h2; clear h2)
            go_roundg (M - 2)
            case measure => omega
            case rel =>
              exact ⟨2, _, acc + (n - 128) * 128, by omega, rfl, rfl, rfl, fun _ => ⟨by first | rfl | exact hv | omega, by show _ < 16384; omega⟩, ER.out, H2.out⟩
          · have hp : (128 : Nat) ^ 2 = 16384 := by decide
            have hacc2 : acc < 16384 := by rw [hp] at hacc; exact hacc
            clear hacc
            have ha : bits .and .u8 (n : Int) 127 = (n : Int) % 128 := u8_and127 _ (by omega) (by omega)
            have hv : bits .or .u64 (acc : Int) ((n : Int) % 128 * 16384) = ((acc + (n - 128) * 16384 : Nat) : Int) := by
              rw [u64_orv14 _ _ (by omega) (by omega) (by omega) (by omega) (by omega)]
              omega
            rw [hp] at ER
            clear hp
            go_wp2_with (go_at_call 82; (with_reducible refine NX2.out.mono ?_); rintro e w2 ⟨rfl, h2⟩; have H2 := hiddenC h2; clear h2)
            go_roundg (M - 3)
            case measure => omega
            case rel =>
              exact ⟨3, _, acc + (n - 128) * 16384, by omega, rfl, rfl, rfl, fun _ => ⟨by first | rfl | exact hv | omega, by show _ < 2097152; omega⟩, ER.out, H2.out⟩
          · have hp : (128 : Nat) ^ 3 = 2097152 := by decide
            have hacc2 : acc < 2097152 := by rw [hp] at hacc; exact hacc
            clear hacc
            have ha : bits .and .u8 (n : Int) 127 = (n : Int) % 128 := u8_and127 _ (by omega) (by omega)
            have hv : bits .or .u64 (acc : Int) ((n : Int) % 128 * 2097152) = ((acc + (n - 128) * 2097152 : Nat) : Int) := by
              rw [u64_orv21 _ _ (by omega) (by omega) (by omega) (by omega) (by omega)]
              omega
            rw [hp] at ER
            clear hp
            go_wp2_with (go_at_call 82; (with_reducible refine NX2.out.mono ?_); rintro e w2 ⟨rfl, h2⟩; have H2 := hiddenC h2; clear h2)
            go_roundg (M - 4)
            case measure => omega
            case rel =>
              exact ⟨4, _, acc + (n - 128) * 2097152, by omega, rfl, rfl, rfl, fun _ => ⟨by first | rfl | exact hv | omega, by show _ < 268435456; omega⟩, ER.out, H2.out⟩
          · have hp : (128 : Nat) ^ 4 = 268435456 := by decide
            have hacc2 : acc < 268435456 := by rw [hp] at hacc; exact hacc
            clear hacc
            have ha : bits .and .u8 (n : Int) 127 = (n : Int) % 128 := u8_and127 _ (by omega) (by omega)
            have hv : bits .or .u64 (acc : Int) ((n : Int) % 128 * 268435456) = ((acc + (n - 128) * 268435456 : Nat) : Int) := by
              rw [u64_orv28 _ _ (by omega) (by omega) (by omega) (by omega) (by omega)]
              omega
            rw [hp] at ER
            clear hp
            go_wp2_with (go_at_call 82; (with_reducible refine NX2.out.mono ?_); rintro e w2 ⟨rfl, h2⟩; have H2 := hiddenC h2; clear h2)
            go_roundg (M - 5)
            case measure => omega
            case rel =>
              exact ⟨5, _, acc + (n - 128) * 268435456, by omega, rfl, rfl, rfl, fun _ => ⟨by first | rfl | exact hv | omega, by show _ < 34359738368; omega⟩, ER.out, H2.out⟩
          · have hp : (128 : Nat) ^ 5 = 34359738368 := by decide
            have hacc2 : acc < 34359738368 := by rw [hp] at hacc; exact hacc
            clear hacc
            have ha : bits .and .u8 (n : Int) 127 = (n : Int) % 128 := u8_and127 _ (by omega) (by omega)
            have hv : bits .or .u64 (acc : Int) ((n : Int) % 128 * 34359738368) = ((acc + (n - 128) * 34359738368 : Nat) : Int) := by
              rw [u64_orv35 _ _ (by omega) (by omega) (by omega) (by omega) (by omega)]
              omega
            rw [hp] at ER
            clear hp
            go_wp2_with (go_at_call 82; (with_reducible refine NX2.out.mono ?_); rintro e w2 ⟨rfl, h2⟩; have H2 := hiddenC h2; clear h2)
            go_roundg (M - 6)
            case measure => omega
            case rel =>
              exact ⟨6, _, acc + (n - 128) * 34359738368, by omega, rfl, rfl, rfl, fun _ => ⟨by first | rfl | exact hv | omega, by show _ < 4398046511104; omega⟩, ER.out, H2.out⟩
          · have hp : (128 : Nat) ^ 6 = 4398046511104 := by decide
            have hacc2 : acc < 4398046511104 := by rw [hp] at hacc; exact hacc
            clear hacc
            have ha : bits .and .u8 (n : Int) 127 = (n : Int) % 128 := u8_and127 _ (by omega) (by omega)
            have hv : bits .or .u64 (acc : Int) ((n : Int) % 128 * 4398046511104) = ((acc + (n - 128) * 4398046511104 : Nat) : Int) := by
              rw [u64_orv42 _ _ (by omega) (by omega) (by omega) (by omega) (by omega)]
              omega
            rw [hp] at ER
            clear hp
            go_wp2_with (go_at_call 82; (with_reducible refine NX2.out.mono ?_); rintro e w2 ⟨rfl, h2⟩; have H2 := hiddenC h2; clear h2)
            go_roundg (M - 7)
            case measure => omega
            case rel =>
              exact ⟨7, _, acc + (n - 128) * 4398046511104, by omega, rfl, rfl, rfl, fun _ => ⟨by first | rfl | exact hv | omega, by show _ < 562949953421312; omega⟩, ER.out, H2.out⟩
          · have hp : (128 : Nat) ^ 7 = 562949953421312 := by decide
            have hacc2 : acc < 562949953421312 := by rw [hp] at hacc; exact hacc
            clear hacc
            have ha : bits .and .u8 (n : Int) 127 = (n : Int) % 128 := u8_and127 _ (by omega) (by omega)
            have hv : bits .or .u64 (acc : Int) ((n : Int) % 128 * 562949953421312) = ((acc + (n - 128) * 562949953421312 : Nat) : Int) := by
              rw [u64_orv49 _ _ (by omega) (by omega) (by omega) (by omega) (by omega)]
              omega
            rw [hp] at ER
            clear hp
            go_wp2_with (go_at_call 82; (with_reducible refine NX2.out.mono ?_); rintro e w2 ⟨rfl, h2⟩; have H2 := hiddenC h2; clear h2)
            go_roundg (M - 8)
            case measure => omega
            case rel =>
              exact ⟨8, _, acc + (n - 128) * 562949953421312, by omega, rfl, rfl, rfl, fun _ => ⟨by first | rfl | exact hv | omega, by show _ < 72057594037927936; omega⟩, ER.out, H2.out⟩
          · have hp : (128 : Nat) ^ 8 = 72057594037927936 := by decide
            have hacc2 : acc < 72057594037927936 := by rw [hp] at hacc; exact hacc
            clear hacc
            have ha : bits .and .u8 (n : Int) 127 = (n : Int) % 128 := u8_and127 _ (by omega) (by omega)
            have hv : bits .or .u64 (acc : Int) ((n : Int) % 128 * 72057594037927936) = ((acc + (n - 128) * 72057594037927936 : Nat) : Int) := by
              rw [u64_orv56 _ _ (by omega) (by omega) (by omega) (by omega) (by omega)]
              omega
            rw [hp] at ER
            clear hp
            go_wp2_with (go_at_call 82; (with_reducible refine NX2.out.mono ?_); rintro e w2 ⟨rfl, h2⟩; have H2 := hiddenC h2; clear h2)
            go_roundg (M - 9)
            case measure => omega
            case rel =>
              exact ⟨9, _, acc + (n - 128) * 72057594037927936, by omega, rfl, rfl, rfl, fun _ => ⟨by first | rfl | exact hv | omega, by show _ < 9223372036854775808; omega⟩, ER.out, H2.out⟩
          · have hp : (128 : Nat) ^ 9 = 9223372036854775808 := by decide
            have hacc2 : acc < 9223372036854775808 := by rw [hp] at hacc; exact hacc
            clear hacc
            have ha : bits .and .u8 (n : Int) 127 = (n : Int) % 128 := u8_and127 _ (by omega) (by omega)
            rw [hp] at ER
            clear hp
            go_wp2_with (go_at_call 82; (with_reducible refine NX2.out.mono ?_); rintro e w2 ⟨rfl, h2⟩; have H2 := hiddenC h2; clear h2)
            go_roundg (M - 10)
            case measure => omega
            case rel =>
              exact ⟨10, _, acc + (n - 128) * 9223372036854775808, by omega, rfl, rfl, rfl, (fun h => absurd h (by decide)), ER.out, H2.out⟩
    · have hki : ¬ (k : Int) < (M : Int) := by omega
      have ER : Hid (numR M D j = .error (41, j)) := by
        have q := HE.out
        rw [show M - k = 0 by omega] at q
        rw [q]; rfl
      have FA1 := hiddenC (FA.out _ _ HA.out)
      clear HE hza FA NX EN
      go_wp2_with (go_at_call 58; (with_reducible refine FA1.out.mono ?_); rintro e w2 ⟨rfl, h2⟩; have H2 := hiddenC h2; clear h2)
      refine ⟨rfl, ?_⟩
      rw [← HPE.out, ER.out]
      exact ⟨rfl, H2.out⟩
def numV {α : Type} (f : α → Int) (x : α) (_ : World) (v : Value) : Prop := v = .int .i64 (f x)
theorem num_le {m : Nat} {D : List UInt8} {j n k : Nat} (h0 : 0 < m) (hm : m ≤ 10) (hj : j ≤ D.length) (h : numR m D j = .ok (n, k)) : LimN m 0 n ∧ k ≤ D.length := by
  obtain ⟨-, -, q3, q4⟩ := (coded_num h0 hm).back D j n k hj h
  exact ⟨q4, q3⟩
set_option maxRecDepth 100000 in
set_option maxHeartbeats 2000000 in
theorem rdCount_any (R : Nat) (D : List UInt8) (j : Nat) (w : World) (h : BlkA 83 R w (rdV D j)) (hj : j ≤ D.length) (hD : D.length ≤ 4611686018427387904) :
    Calls Try.prog 59 #[.pointer (some ⟨R, 0, none⟩)] w (RdE R D w (cntR D j) (numV (fun n : Int => n))) := by
  have NU : Hid (Calls Try.prog 80 #[.pointer (some ⟨R, 0, none⟩), .int .i64 3] w (RdE R D w (numR 3 D j) (IntV .u64 (fun n : Nat => (n : Int))))) := rdNumber_any R D j w h hj hD 3 (by decide)
  cases hr : numR 3 D j with
  | error x =>
    rw [hr] at NU
    have E : cntR D j = .error x := thenR_err hr
    rw [E]
    clear h hj hD hr E
    go_enter Try.func59, Try.ntmps59
    go_wp2_with (go_at_call 80; (with_reducible refine NU.out.mono ?_); rintro e w2 ⟨rfl, h2⟩; have H2 := hiddenC h2; clear h2)
    exact ⟨rfl, rfl, H2.out⟩
  | ok p =>
    obtain ⟨n, k⟩ := p
    rw [hr] at NU
    have E : cntR D j = .ok ((n : Int), k) := by unfold cntR; rw [thenR_ok hr]; rfl
    have hn := lim_three.1 (num_le (by decide) (by decide) hj hr).1
    have hw : IntKind.i64.wrap (n : Int) = (n : Int) := by rw [wrapC]; unfold wrap64; omega
    rw [E]
    clear h hj hD hr E
    go_enter Try.func59, Try.ntmps59
    go_wp2_with (go_at_call 80; (with_reducible refine NU.out.mono ?_); rintro e w2 ⟨v, rfl, hv, h2⟩; have H2 := hiddenC h2; obtain rfl : v = .int .u64 (n : Int) := hv; clear h2)
    go_ret
    exact ⟨_, rfl, rfl, H2.out⟩
set_option maxRecDepth 100000 in
set_option maxHeartbeats 2000000 in
theorem rdInteger_any (R : Nat) (D : List UInt8) (j : Nat) (w : World) (h : BlkA 83 R w (rdV D j)) (hj : j ≤ D.length) (hD : D.length ≤ 4611686018427387904) :
    Calls Try.prog 84 #[.pointer (some ⟨R, 0, none⟩)] w (RdE R D w (intR D j) (numV (fun n : Int => n))) := by
  have NU : Hid (Calls Try.prog 80 #[.pointer (some ⟨R, 0, none⟩), .int .i64 10] w (RdE R D w (numR 10 D j) (IntV .u64 (fun n : Nat => (n : Int))))) := rdNumber_any R D j w h hj hD 10 (by decide)
  cases hr : numR 10 D j with
  | error x =>
    rw [hr] at NU
    have E : intR D j = .error x := thenR_err hr
    rw [E]
    clear h hj hD hr E
    go_enter Try.func84, Try.ntmps84
    go_wp2_with (go_at_call 80; (with_reducible refine NU.out.mono ?_); rintro e w2 ⟨rfl, h2⟩; have H2 := hiddenC h2; clear h2)
    exact ⟨rfl, rfl, H2.out⟩
  | ok p =>
    obtain ⟨n, k⟩ := p
    rw [hr] at NU
    have E : intR D j = .ok (unzig n, k) := by unfold intR; rw [thenR_ok hr]; rfl
    have hn := lim_ten.1 (num_le (by decide) (by decide) hj hr).1
    have hand := Lib.u64_and1 (n : Int) (by omega) (by omega)
    rw [E]
    by_cases hodd : n % 2 = 0
    · have hand0 : bits .and .u64 (n : Int) 1 = 0 := by rw [hand]; omega
      have hu : unzig n = (n : Int) / 2 := by unfold unzig; rw [if_pos hodd]; omega
      have hx : bits .xor .i64 ((n : Int) / 2) 0 = (n : Int) / 2 := by
        obtain ⟨m, hm⟩ : ∃ m : Nat, (n : Int) / 2 = (m : Int) := ⟨n / 2, by omega⟩
        rw [hm]
        show IntKind.i64.wrap ((BitVec.ofInt 64 (m : Int) ^^^ BitVec.ofInt 64 0).toNat : Int) = _
        have h2 : (BitVec.ofInt 64 (m : Int)).toNat = m := by
          rw [BitVec.ofInt_natCast, BitVec.toNat_ofNat]; exact Nat.mod_eq_of_lt (by omega)
        have h0 : (BitVec.ofInt 64 0).toNat = 0 := by decide
        rw [BitVec.toNat_xor, h2, h0, Nat.xor_zero, wrapC]
        unfold wrap64; omega
      rw [hu]
      clear h hj hD hr E hand
      go_enter Try.func84, Try.ntmps84
      go_wp2_with (go_at_call 80; (with_reducible refine NU.out.mono ?_); rintro e w2 ⟨v, rfl, hv, h2⟩; have H2 := hiddenC h2; obtain rfl : v = .int .u64 (n : Int) := hv; clear h2)
      go_ret
      exact ⟨_, rfl, rfl, H2.out⟩
    · have hand1 : bits .and .u64 (n : Int) 1 = 1 := by rw [hand]; omega
      have hu : unzig n = -((n : Int) / 2) - 1 := by unfold unzig; rw [if_neg hodd]; omega
      have hx : bits .xor .i64 ((n : Int) / 2) (-1) = -((n : Int) / 2) - 1 := by
        obtain ⟨m, hm⟩ : ∃ m : Nat, (n : Int) / 2 = (m : Int) := ⟨n / 2, by omega⟩
        rw [hm]
        show IntKind.i64.wrap ((BitVec.ofInt 64 (m : Int) ^^^ BitVec.ofInt 64 (-1)).toNat : Int) = _
        have h1 : (BitVec.ofInt 64 (-1)).toNat = 2 ^ 64 - 1 := by decide
        have h2 : (BitVec.ofInt 64 (m : Int)).toNat = m := by
          rw [BitVec.ofInt_natCast, BitVec.toNat_ofNat]; exact Nat.mod_eq_of_lt (by omega)
        rw [BitVec.toNat_xor, h1, h2, Nat.xor_comm, Lib.xor_ones64 m (by omega), wrapC]
        unfold wrap64; omega
      rw [hu]
      clear h hj hD hr E hand
      go_enter Try.func84, Try.ntmps84
      go_wp2_with (go_at_call 80; (with_reducible refine NU.out.mono ?_); rintro e w2 ⟨v, rfl, hv, h2⟩; have H2 := hiddenC h2; obtain rfl : v = .int .u64 (n : Int) := hv; clear h2)
      go_ret
      exact ⟨_, rfl, rfl, H2.out⟩
def iV (z : Int) : List Value := [.int .i64 z]
theorem iV_len (z) : (iV z).length = 1 := rfl
theorem iV_one (z : Int) : ∀ u ∈ iV z, u.oneCell' = true := by
  intro u hu; simp only [iV, List.mem_singleton] at hu; subst hu; rfl
theorem prtV_one (x) : ∀ u ∈ prtV x, u.oneCell' = true := by
  intro u hu; simp only [prtV, List.mem_cons, List.not_mem_nil, or_false] at hu; rcases hu with rfl | rfl <;> rfl
theorem linV_one (x) : ∀ u ∈ linV x, u.oneCell' = true := by
  intro u hu; simp only [linV, List.mem_cons, List.not_mem_nil, or_false] at hu; rcases hu with rfl | rfl | rfl <;> rfl
theorem opV_one (x) : ∀ u ∈ opV x, u.oneCell' = true := by
  intro u hu; simp only [opV, List.mem_cons, List.not_mem_nil, or_false] at hu; rcases hu with rfl | rfl | rfl <;> rfl
theorem AtV.ints {w : World} {a : Option Addr} {zs : List Int} (h : AtV iV 1 w a zs) : At w a zs := by
  rcases h with h | ⟨b, off, e, hc⟩
  · exact .inl h
  · refine .inr ⟨b, off, e, fun k hk => ?_⟩
    have hg : zs[k]? = some (nth zs k) := by unfold nth; rw [List.getD_eq_getElem?_getD, List.getElem?_eq_getElem hk]; rfl
    have q := hc k _ hg 0 _ rfl
    rw [Nat.mul_one, Nat.add_zero] at q
    exact q
theorem Try.infoPrt : (Try.prog.info? 45).map (fun i => (i.zero, i.size, i.bytes)) = some (some (.agg #[.int .u8 0, .slice none 0 0]), 2, 32) := by kernel_rfl
theorem Try.infoLin : (Try.prog.info? 49).map (fun i => (i.zero, i.size, i.bytes)) = some (some (.agg #[.int .i64 0, .int .i64 0, .slice none 0 0]), 3, 40) := by kernel_rfl
theorem Try.infoOpC : (Try.prog.info? 53).map (fun i => (i.zero, i.size, i.bytes)) = some (some (.agg #[.int .u8 0, .int .i64 0, .int .i64 0]), 3, 24) := by kernel_rfl
theorem Try.infoIntC : (Try.prog.info? 3).map (fun i => (i.zero, i.size, i.bytes)) = some (some (.int .i64 0), 1, 8) := by kernel_rfl
/-- Rows of unlike types lie in unlike blocks. -/
theorem CapV.ne_row {α β : Type} {f : α → List Value} {g : β → List Value} {c d : Nat} {T T' : TypeId} {B B' : Nat} {w : World} {a a' : Option Addr} {cap cap' : Nat} {L : List α} {M : List β} (h : CapV T f c B w a cap L) (k : CapV T' g d B' w a' cap' M) (hT : T ≠ T') : ∀ x y, a = some x → a' = some y → x.block ≠ y.block := by
  intro x y hx hy e
  rcases h.2 with ⟨q1, q2⟩ | ⟨b1, cp1, cur1, q1, hg1, hh1, -⟩
  · simp at q1; rw [q1.1] at hx; cases hx
  · rcases k.2 with ⟨r1, r2⟩ | ⟨b2, cp2, cur2, r1, hg2, hh2, -⟩
    · simp at r1; rw [r1.1] at hy; cases hy
    · cases q1; cases r1; cases hx; cases hy
      have e2 : b1 = b2 := e
      rw [e2, hh2] at hh1
      cases hh1
      exact hT rfl
theorem row_ok {α : Type} {one : RdC α} {D : List UInt8} {k0 k m m' : Nat} {l : List α} {a : α} (h : rowR one k D k0 = .ok (l, m)) (h2 : one D m = .ok (a, m')) : rowR one (k + 1) D k0 = .ok (l ++ [a], m') := by
  unfold rowR
  rw [thenR_ok h, thenR_ok h2]; rfl
theorem row_err1 {α : Type} {one : RdC α} {D : List UInt8} {k0 k m : Nat} {l : List α} {x : Int × Nat} (h : rowR one k D k0 = .ok (l, m)) (h2 : one D m = .error x) : rowR one (k + 1) D k0 = .error x := by
  unfold rowR
  rw [thenR_ok h, thenR_err h2]
theorem row_err {α : Type} {one : RdC α} {D : List UInt8} {k0 k : Nat} {x : Int × Nat} (h : rowR one k D k0 = .error x) : ∀ d, rowR one (k + d) D k0 = .error x
  | 0 => h
  | d + 1 => by
    rw [← Nat.add_assoc]
    unfold rowR
    exact thenR_err (row_err h d)
theorem many_le {most : Nat} {D : List UInt8} {j n k : Nat} (hm : most < 2097152) (hj : j ≤ D.length) (h : manyR most D j = .ok (n, k)) : n ≤ most ∧ k ≤ D.length := by
  obtain ⟨-, -, q3, q4⟩ := (coded_many hm).back D j n k hj h
  exact ⟨q4, q3⟩
set_option maxRecDepth 100000 in
set_option maxHeartbeats 2000000 in
theorem rdMany_any (R : Nat) (D : List UInt8) (j : Nat) (w : World) (h : BlkA 83 R w (rdV D j)) (hj : j ≤ D.length) (hD : D.length ≤ 4611686018427387904) (most : Nat) :
    Calls Try.prog 81 #[.pointer (some ⟨R, 0, none⟩), .int .i64 (most : Int)] w (RdE R D w (manyR most D j) (numV (fun n : Nat => (n : Int)))) := by
  have CN := hiddenC (rdCount_any R D j w h hj hD)
  have y1 := h.cell (k := 1) rfl
  simp only [rdV, List.getElem_toArray, List.getElem_cons_zero, List.getElem_cons_succ] at y1
  cases hr : numR 3 D j with
  | error x =>
    have E : cntR D j = .error x := thenR_err hr
    have E2 : manyR most D j = .error x := by unfold manyR; rw [hr]
    rw [E] at CN
    rw [E2]
    clear h hj hD hr E E2
    go_enter Try.func81, Try.ntmps81
    go_wp2_with (go_at_call 59; (with_reducible refine CN.out.mono ?_); rintro e w2 ⟨rfl, h2⟩; have H2 := hiddenC h2; clear h2)
    exact ⟨rfl, rfl, H2.out⟩
  | ok p =>
    obtain ⟨n, k⟩ := p
    have E : cntR D j = .ok ((n : Int), k) := by unfold cntR; rw [thenR_ok hr]; rfl
    rw [E] at CN
    by_cases hm : most < n
    · have E2 : manyR most D j = .error (81, j) := by unfold manyR; rw [hr]; simp only; rw [if_pos hm]
      have hmi : (n : Int) > (most : Int) := by omega
      have FA : Hid (∀ U, RdA R D k w U → Calls Try.prog 58 #[.pointer (some ⟨R, 0, none⟩), .int .i64 81, .int .i64 (j : Int)] U fun e w' => e = .panicked (fltP 81 j) ∧ RdZ R D w 81 j w') := fun U hU => (rdFail_any R D k U hU.box 81 j).mono fun e w' hh => ⟨hh.1, hU.transZ hh.2⟩
      rw [E2]
      clear h hj hD hr E E2 hm
      go_enter Try.func81, Try.ntmps81
      go_wp2_with (first | (go_at_call 59; (with_reducible refine CN.out.mono ?_); rintro e w2 ⟨v, rfl, hv, h2⟩; have H2 := hiddenC h2; obtain rfl : v = .int .i64 (n : Int) := hv; clear h2) | (go_at_call 58; (with_reducible refine (FA.out _ H2.out).mono ?_); rintro e w3 ⟨rfl, h3⟩; have H3 := hiddenC h3; clear h3))
      exact ⟨rfl, rfl, H3.out⟩
    · have E2 : manyR most D j = .ok (n, k) := by unfold manyR; rw [hr]; simp only; rw [if_neg hm]
      have hmi : ¬ (n : Int) > (most : Int) := by omega
      rw [E2]
      clear h hj hD hr E E2 hm
      go_enter Try.func81, Try.ntmps81
      go_wp2_with (go_at_call 59; (with_reducible refine CN.out.mono ?_); rintro e w2 ⟨v, rfl, hv, h2⟩; have H2 := hiddenC h2; obtain rfl : v = .int .i64 (n : Int) := hv; clear h2)
      go_ret
      exact ⟨_, rfl, rfl, H2.out⟩
/-- A row that has been read: its elements' own rows lie, too. -/
def RowS {α β : Type} (T : TypeId) (f : β → List Value) (c : Nat) (pr : β → α) (Sx : Nat → β → World → Prop) (B : Nat) (l : List α) (w : World) (v : Value) : Prop :=
  ∃ a k L, v = .slice a l.length k ∧ L.map pr = l ∧ CapV T f c B w a k L ∧ ∀ b ∈ L, Sx B b w
def noS {β : Type} (_ : Nat) (_ : β) (_ : World) : Prop := True
def prtS (B : Nat) (b : PrtC × (Option Addr × Nat)) (w : World) : Prop := CapV 3 iV 1 B w b.2.1 b.2.2 b.1.ps
def linS (B : Nat) (b : LinC × (Option Addr × Nat)) (w : World) : Prop := CapV 3 iV 1 B w b.2.1 b.2.2 b.1.start
set_option maxRecDepth 100000 in
set_option maxHeartbeats 8000000 in
theorem rdInts_any (R : Nat) (D : List UInt8) (j : Nat) (w : World) (h : BlkA 83 R w (rdV D j)) (hj : j ≤ D.length) (hD : D.length ≤ 4611686018427387904) (most : Nat) (hmost : most < 2097152)
    (hone : ∀ k U, BlkA 83 R U (rdV D k) → k ≤ D.length → Calls Try.prog 84 #[.pointer (some ⟨R, 0, none⟩)] U (RdE R D U (intR D k) (fun a w' v => ∃ b : Int, (fun b : Int => b) b = a ∧ v = .int .i64 b ∧ noS U.heap.size b w'))) :
    Calls Try.prog 83 #[.pointer (some ⟨R, 0, none⟩), .int .i64 (most : Int), .func (.func 84) #[.pointer (some ⟨R, 0, none⟩)] #[]] w (RdE R D w (listR most intR D j) (RowS 3 iV 1 (fun b : Int => b) noS w.heap.size)) := by
  obtain ⟨PE, hPE⟩ : ∃ Q : Ending → World → Prop, RdE R D w (listR most intR D j) (RowS 3 iV 1 (fun b : Int => b) noS w.heap.size) = Q := ⟨_, rfl⟩
  rw [hPE]
  have HPE := hiddenC hPE
  have MN := hiddenC (rdMany_any R D j w h hj hD most)
  have NX := hiddenC hone
  clear hPE
  cases hr : manyR most D j with
  | error x =>
    rw [hr] at MN
    have E : Hid (listR most intR D j = .error x) := thenR_err hr
    clear h hj hD hr hone NX
    go_enter Try.func83, Try.ntmps83
    go_wp2_with (go_at_call 81; (with_reducible refine MN.out.mono ?_); rintro e w2 ⟨rfl, h2⟩; have H2 := hiddenC h2; clear h2)
    refine ⟨rfl, ?_⟩
    rw [← HPE.out, E.out]
    exact ⟨rfl, H2.out⟩
  | ok p =>
    obtain ⟨n, k0⟩ := p
    rw [hr] at MN
    have E : Hid (listR most intR D j = rowR intR n D k0) := by show _ = _; unfold listR; rw [thenR_ok hr]
    have hn := many_le hmost hj hr
    have hnb : n ≤ 2097152 := by omega
    clear h hj hD hr hone hn
    go_enter Try.func83, Try.ntmps83
    go_wp2_with (go_at_call 81; (with_reducible refine MN.out.mono ?_); rintro e w2 ⟨v, rfl, hv, h2⟩; have H2 := hiddenC h2; obtain rfl : v = .int .i64 (n : Int) := hv; clear h2)
    go_loopg [7, 11] n (fun gk u v wr => ∃ (k m : Nat) (l : List _) (a : Option Addr) (cp : Nat) (L : List (Int)), k ≤ n ∧ gk = n - k ∧ u = .slice a k cp ∧ v = .int .i64 (k : Int) ∧ rowR intR k D k0 = .ok (l, m) ∧ L.map (fun b : Int => b) = l ∧ L.length = k ∧ RdA R D m w wr ∧ CapV 3 iV 1 w.heap.size wr a cp L ∧ ∀ b ∈ L, noS w.heap.size b wr)
    case atStart => exact ⟨0, k0, [], none, 0, [], Nat.zero_le _, rfl, rfl, rfl, rfl, rfl, rfl, H2.out, CapV.nil _ _, (fun b hb => by cases hb)⟩
    case round =>
      obtain ⟨k, m, l, a, cp, L, hk, rfl, rfl, rfl, hrow, hmap, hlen, hA, hC, hS⟩ := hrel
      have HROW := hiddenC hrow
      have HMAP := hiddenC hmap
      have HLEN := hiddenC hlen
      have HA := hiddenC hA
      have HC := hiddenC hC
      have HS := hiddenC hS
      have WQ : Hid (w.heap.size ≤ wr.heap.size) := hA.but.size
      clear hrow hmap hlen hA hC hS
      by_cases hlt : k < n
      · have hki : (k : Int) < (n : Int) := by omega
        have NX1 := hiddenC (NX.out m wr HA.out.box HA.out.le)
        cases ho : intR D m with
        | error x =>
          rw [ho] at NX1
          have E2 : Hid (rowR intR n D k0 = .error x) := by
            have q := row_err (row_err1 HROW.out ho) (n - (k + 1))
            rw [show k + 1 + (n - (k + 1)) = n by omega] at q
            exact q
          clear HROW ho
          go_wp2_with (go_at_call 84; (with_reducible refine NX1.out.mono ?_); rintro e w3 ⟨rfl, h3⟩; have H3 := hiddenC (HA.out.transZ h3); clear h3)
          refine ⟨rfl, ?_⟩
          rw [← HPE.out, E.out, E2.out]
          exact ⟨rfl, H3.out⟩
        | ok p =>
          obtain ⟨x, m'⟩ := p
          rw [ho] at NX1
          have HROW2 := hiddenC (row_ok HROW.out ho)
          clear HROW ho
          go_wp2_with (first
            | (at_builtin; refine wpList_appV rfl _ _ 43 rfl Try.underlying43 _ 8 Try.infoIntC rfl (by decide) (by decide) iV_len w.heap.size a cp L k HLEN.out rfl HC4.out w3.heap.size b rfl CX.out (iV_one _) (by omega) WQ4.out ?_; intro d q w5 hg; have HG := hiddenC hg; clear hg)
            | (go_at_call 84; (with_reducible refine NX1.out.mono ?_); rintro e w3 ⟨v, rfl, ⟨b, hb1, rfl, hb3⟩, hA3⟩;  have HB1 := hiddenC hb1; have HB3 := hiddenC hb3; have HA3 := hiddenC (HA.out.trans hA3); have BU := hiddenC hA3.but; clear hb1 hb3 hA3; have b4 := (Below.refl w3.heap.size w3).alloc (Nat.le_refl _) (.cells #[.int .i64 b] 3); have BE4 := hiddenC b4; have HC4 := hiddenC ((HC.out.but BU.out (HC.out.ne_type HA.out.box (by decide))).later b4); have WQ4 : Hid (w.heap.size ≤ (w3.alloc (.cells #[.int .i64 b] 3)).heap.size) := Nat.le_trans HA3.out.but.size b4.size; have CX : Hid (∀ j u, (iV b)[j]? = some u → (w3.alloc (.cells #[.int .i64 b] 3)).cell? ⟨w3.heap.size, j, none⟩ = some u) := (fun j u hu => (blkA_new 3 w3 #[.int .i64 b]).cell (by rw [← Array.getElem?_toList]; exact hu)); clear b4))
          have HA5 : Hid (RdA R D m' w w5) := by
            have q := HA3.out.below BE4.out
            refine ⟨q.box.keep (HG.out.keep R q.box.lt (fun y hy => HC4.out.ne_type q.box (by decide) y hy)), ⟨HG.out.os.trans q.but.os, HG.out.tape.trans q.but.tape, HG.out.output.trans q.but.output, Nat.le_trans q.but.size HG.out.size, fun i hi hne => ?_⟩, q.le⟩
            exact (HG.out.keep i (Nat.lt_of_lt_of_le hi q.but.size) (fun y hy => by have := (HC4.out.lt y hy).1; omega)).trans (q.but.block i hi hne)
          have HS5 : Hid (∀ x ∈ L ++ [b], noS w.heap.size x w5) := fun _ _ => trivial
          go_roundg (n - (k + 1))
          case measure => omega
          case rel => exact ⟨k + 1, m', _, d, q, L ++ [b], by omega, rfl, rfl, by go_num, HROW2.out, by rw [List.map_append, HMAP.out]; exact congrArg (l ++ ·) (congrArg (fun z => [z]) HB1.out), by rw [List.length_append, HLEN.out]; rfl, HA5.out, HG.out.own, HS5.out⟩
      · have hki : ¬ (k : Int) < (n : Int) := by omega
        have ek : k = n := by omega
        have HROW2 := HROW.out
        rw [ek] at HROW2
        have HR2 := hiddenC HROW2
        clear HROW HROW2 NX MN
        go_wp2
        rw [← HPE.out, E.out, HR2.out]
        refine ⟨_, rfl, ?_, HA.out⟩
        refine ⟨a, cp, L, ?_, HMAP.out, HC.out, HS.out⟩
        exact congrArg (fun x => Value.slice a x cp) (by rw [← HMAP.out, List.length_map, HLEN.out, ek])
set_option maxRecDepth 100000 in
set_option maxHeartbeats 8000000 in
theorem rdOps_any (R : Nat) (D : List UInt8) (j : Nat) (w : World) (h : BlkA 83 R w (rdV D j)) (hj : j ≤ D.length) (hD : D.length ≤ 4611686018427387904) (most : Nat) (hmost : most < 2097152)
    (hone : ∀ k U, BlkA 83 R U (rdV D k) → k ≤ D.length → Calls Try.prog 65 #[.pointer (some ⟨R, 0, none⟩)] U (RdE R D U (opR D k) (fun a w' v => ∃ b : OpC, (fun b : OpC => b) b = a ∧ v = .agg #[.int .u8 (b.kind : Int), .int .i64 b.a, .int .i64 b.b] ∧ noS U.heap.size b w'))) :
    Calls Try.prog 64 #[.pointer (some ⟨R, 0, none⟩), .int .i64 (most : Int), .func (.func 65) #[.pointer (some ⟨R, 0, none⟩)] #[]] w (RdE R D w (listR most opR D j) (RowS 53 opV 3 (fun b : OpC => b) noS w.heap.size)) := by
  obtain ⟨PE, hPE⟩ : ∃ Q : Ending → World → Prop, RdE R D w (listR most opR D j) (RowS 53 opV 3 (fun b : OpC => b) noS w.heap.size) = Q := ⟨_, rfl⟩
  rw [hPE]
  have HPE := hiddenC hPE
  have MN := hiddenC (rdMany_any R D j w h hj hD most)
  have NX := hiddenC hone
  clear hPE
  cases hr : manyR most D j with
  | error x =>
    rw [hr] at MN
    have E : Hid (listR most opR D j = .error x) := thenR_err hr
    clear h hj hD hr hone NX
    go_enter Try.func64, Try.ntmps64
    go_wp2_with (go_at_call 81; (with_reducible refine MN.out.mono ?_); rintro e w2 ⟨rfl, h2⟩; have H2 := hiddenC h2; clear h2)
    refine ⟨rfl, ?_⟩
    rw [← HPE.out, E.out]
    exact ⟨rfl, H2.out⟩
  | ok p =>
    obtain ⟨n, k0⟩ := p
    rw [hr] at MN
    have E : Hid (listR most opR D j = rowR opR n D k0) := by show _ = _; unfold listR; rw [thenR_ok hr]
    have hn := many_le hmost hj hr
    have hnb : n ≤ 2097152 := by omega
    clear h hj hD hr hone hn
    go_enter Try.func64, Try.ntmps64
    go_wp2_with (go_at_call 81; (with_reducible refine MN.out.mono ?_); rintro e w2 ⟨v, rfl, hv, h2⟩; have H2 := hiddenC h2; obtain rfl : v = .int .i64 (n : Int) := hv; clear h2)
    go_loopg [7, 11] n (fun gk u v wr => ∃ (k m : Nat) (l : List _) (a : Option Addr) (cp : Nat) (L : List (OpC)), k ≤ n ∧ gk = n - k ∧ u = .slice a k cp ∧ v = .int .i64 (k : Int) ∧ rowR opR k D k0 = .ok (l, m) ∧ L.map (fun b : OpC => b) = l ∧ L.length = k ∧ RdA R D m w wr ∧ CapV 53 opV 3 w.heap.size wr a cp L ∧ ∀ b ∈ L, noS w.heap.size b wr)
    case atStart => exact ⟨0, k0, [], none, 0, [], Nat.zero_le _, rfl, rfl, rfl, rfl, rfl, rfl, H2.out, CapV.nil _ _, (fun b hb => by cases hb)⟩
    case round =>
      obtain ⟨k, m, l, a, cp, L, hk, rfl, rfl, rfl, hrow, hmap, hlen, hA, hC, hS⟩ := hrel
      have HROW := hiddenC hrow
      have HMAP := hiddenC hmap
      have HLEN := hiddenC hlen
      have HA := hiddenC hA
      have HC := hiddenC hC
      have HS := hiddenC hS
      have WQ : Hid (w.heap.size ≤ wr.heap.size) := hA.but.size
      clear hrow hmap hlen hA hC hS
      by_cases hlt : k < n
      · have hki : (k : Int) < (n : Int) := by omega
        have NX1 := hiddenC (NX.out m wr HA.out.box HA.out.le)
        cases ho : opR D m with
        | error x =>
          rw [ho] at NX1
          have E2 : Hid (rowR opR n D k0 = .error x) := by
            have q := row_err (row_err1 HROW.out ho) (n - (k + 1))
            rw [show k + 1 + (n - (k + 1)) = n by omega] at q
            exact q
          clear HROW ho
          go_wp2_with (go_at_call 65; (with_reducible refine NX1.out.mono ?_); rintro e w3 ⟨rfl, h3⟩; have H3 := hiddenC (HA.out.transZ h3); clear h3)
          refine ⟨rfl, ?_⟩
          rw [← HPE.out, E.out, E2.out]
          exact ⟨rfl, H3.out⟩
        | ok p =>
          obtain ⟨x, m'⟩ := p
          rw [ho] at NX1
          have HROW2 := hiddenC (row_ok HROW.out ho)
          clear HROW ho
          go_wp2_with (first
            | (at_builtin; refine wpList_appV rfl _ _ 24 rfl Try.underlying24 _ 24 Try.infoOpC rfl (by decide) (by decide) opV_len w.heap.size a cp L k HLEN.out rfl HC4.out w3.heap.size b rfl CX.out (opV_one _) (by omega) WQ4.out ?_; intro d q w5 hg; have HG := hiddenC hg; clear hg)
            | (go_at_call 65; (with_reducible refine NX1.out.mono ?_); rintro e w3 ⟨v, rfl, ⟨b, hb1, rfl, hb3⟩, hA3⟩;  have HB1 := hiddenC hb1; have HB3 := hiddenC hb3; have HA3 := hiddenC (HA.out.trans hA3); have BU := hiddenC hA3.but; clear hb1 hb3 hA3; have b4 := (Below.refl w3.heap.size w3).alloc (Nat.le_refl _) (.cells #[.int .u8 (b.kind : Int), .int .i64 b.a, .int .i64 b.b] 53); have BE4 := hiddenC b4; have HC4 := hiddenC ((HC.out.but BU.out (HC.out.ne_type HA.out.box (by decide))).later b4); have WQ4 : Hid (w.heap.size ≤ (w3.alloc (.cells #[.int .u8 (b.kind : Int), .int .i64 b.a, .int .i64 b.b] 53)).heap.size) := Nat.le_trans HA3.out.but.size b4.size; have CX : Hid (∀ j u, (opV b)[j]? = some u → (w3.alloc (.cells #[.int .u8 (b.kind : Int), .int .i64 b.a, .int .i64 b.b] 53)).cell? ⟨w3.heap.size, j, none⟩ = some u) := (fun j u hu => (blkA_new 53 w3 #[.int .u8 (b.kind : Int), .int .i64 b.a, .int .i64 b.b]).cell (by rw [← Array.getElem?_toList]; exact hu)); clear b4))
          have HA5 : Hid (RdA R D m' w w5) := by
            have q := HA3.out.below BE4.out
            refine ⟨q.box.keep (HG.out.keep R q.box.lt (fun y hy => HC4.out.ne_type q.box (by decide) y hy)), ⟨HG.out.os.trans q.but.os, HG.out.tape.trans q.but.tape, HG.out.output.trans q.but.output, Nat.le_trans q.but.size HG.out.size, fun i hi hne => ?_⟩, q.le⟩
            exact (HG.out.keep i (Nat.lt_of_lt_of_le hi q.but.size) (fun y hy => by have := (HC4.out.lt y hy).1; omega)).trans (q.but.block i hi hne)
          have HS5 : Hid (∀ x ∈ L ++ [b], noS w.heap.size x w5) := fun _ _ => trivial
          go_roundg (n - (k + 1))
          case measure => omega
          case rel => exact ⟨k + 1, m', _, d, q, L ++ [b], by omega, rfl, rfl, by go_num, HROW2.out, by rw [List.map_append, HMAP.out]; exact congrArg (l ++ ·) (congrArg (fun z => [z]) HB1.out), by rw [List.length_append, HLEN.out]; rfl, HA5.out, HG.out.own, HS5.out⟩
      · have hki : ¬ (k : Int) < (n : Int) := by omega
        have ek : k = n := by omega
        have HROW2 := HROW.out
        rw [ek] at HROW2
        have HR2 := hiddenC HROW2
        clear HROW HROW2 NX MN
        go_wp2
        rw [← HPE.out, E.out, HR2.out]
        refine ⟨_, rfl, ?_, HA.out⟩
        refine ⟨a, cp, L, ?_, HMAP.out, HC.out, HS.out⟩
        exact congrArg (fun x => Value.slice a x cp) (by rw [← HMAP.out, List.length_map, HLEN.out, ek])
set_option maxRecDepth 100000 in
set_option maxHeartbeats 8000000 in
theorem rdParts_any (R : Nat) (D : List UInt8) (j : Nat) (w : World) (h : BlkA 83 R w (rdV D j)) (hj : j ≤ D.length) (hD : D.length ≤ 4611686018427387904) (most : Nat) (hmost : most < 2097152)
    (hone : ∀ k U, BlkA 83 R U (rdV D k) → k ≤ D.length → Calls Try.prog 61 #[.pointer (some ⟨R, 0, none⟩)] U (RdE R D U (prtR D k) (fun a w' v => ∃ b : PrtC × (Option Addr × Nat), Prod.fst b = a ∧ v = .agg #[.int .u8 (b.1.tag : Int), .slice b.2.1 b.1.ps.length b.2.2] ∧ prtS U.heap.size b w'))) :
    Calls Try.prog 60 #[.pointer (some ⟨R, 0, none⟩), .int .i64 (most : Int), .func (.func 61) #[.pointer (some ⟨R, 0, none⟩)] #[]] w (RdE R D w (listR most prtR D j) (RowS 45 prtV 2 Prod.fst prtS w.heap.size)) := by
  obtain ⟨PE, hPE⟩ : ∃ Q : Ending → World → Prop, RdE R D w (listR most prtR D j) (RowS 45 prtV 2 Prod.fst prtS w.heap.size) = Q := ⟨_, rfl⟩
  rw [hPE]
  have HPE := hiddenC hPE
  have MN := hiddenC (rdMany_any R D j w h hj hD most)
  have NX := hiddenC hone
  clear hPE
  cases hr : manyR most D j with
  | error x =>
    rw [hr] at MN
    have E : Hid (listR most prtR D j = .error x) := thenR_err hr
    clear h hj hD hr hone NX
    go_enter Try.func60, Try.ntmps60
    go_wp2_with (go_at_call 81; (with_reducible refine MN.out.mono ?_); rintro e w2 ⟨rfl, h2⟩; have H2 := hiddenC h2; clear h2)
    refine ⟨rfl, ?_⟩
    rw [← HPE.out, E.out]
    exact ⟨rfl, H2.out⟩
  | ok p =>
    obtain ⟨n, k0⟩ := p
    rw [hr] at MN
    have E : Hid (listR most prtR D j = rowR prtR n D k0) := by show _ = _; unfold listR; rw [thenR_ok hr]
    have hn := many_le hmost hj hr
    have hnb : n ≤ 2097152 := by omega
    clear h hj hD hr hone hn
    go_enter Try.func60, Try.ntmps60
    go_wp2_with (go_at_call 81; (with_reducible refine MN.out.mono ?_); rintro e w2 ⟨v, rfl, hv, h2⟩; have H2 := hiddenC h2; obtain rfl : v = .int .i64 (n : Int) := hv; clear h2)
    go_loopg [7, 11] n (fun gk u v wr => ∃ (k m : Nat) (l : List _) (a : Option Addr) (cp : Nat) (L : List (PrtC × (Option Addr × Nat))), k ≤ n ∧ gk = n - k ∧ u = .slice a k cp ∧ v = .int .i64 (k : Int) ∧ rowR prtR k D k0 = .ok (l, m) ∧ L.map Prod.fst = l ∧ L.length = k ∧ RdA R D m w wr ∧ CapV 45 prtV 2 w.heap.size wr a cp L ∧ ∀ b ∈ L, prtS w.heap.size b wr)
    case atStart => exact ⟨0, k0, [], none, 0, [], Nat.zero_le _, rfl, rfl, rfl, rfl, rfl, rfl, H2.out, CapV.nil _ _, (fun b hb => by cases hb)⟩
    case round =>
      obtain ⟨k, m, l, a, cp, L, hk, rfl, rfl, rfl, hrow, hmap, hlen, hA, hC, hS⟩ := hrel
      have HROW := hiddenC hrow
      have HMAP := hiddenC hmap
      have HLEN := hiddenC hlen
      have HA := hiddenC hA
      have HC := hiddenC hC
      have HS := hiddenC hS
      have WQ : Hid (w.heap.size ≤ wr.heap.size) := hA.but.size
      clear hrow hmap hlen hA hC hS
      by_cases hlt : k < n
      · have hki : (k : Int) < (n : Int) := by omega
        have NX1 := hiddenC (NX.out m wr HA.out.box HA.out.le)
        cases ho : prtR D m with
        | error x =>
          rw [ho] at NX1
          have E2 : Hid (rowR prtR n D k0 = .error x) := by
            have q := row_err (row_err1 HROW.out ho) (n - (k + 1))
            rw [show k + 1 + (n - (k + 1)) = n by omega] at q
            exact q
          clear HROW ho
          go_wp2_with (go_at_call 61; (with_reducible refine NX1.out.mono ?_); rintro e w3 ⟨rfl, h3⟩; have H3 := hiddenC (HA.out.transZ h3); clear h3)
          refine ⟨rfl, ?_⟩
          rw [← HPE.out, E.out, E2.out]
          exact ⟨rfl, H3.out⟩
        | ok p =>
          obtain ⟨x, m'⟩ := p
          rw [ho] at NX1
          have HROW2 := hiddenC (row_ok HROW.out ho)
          clear HROW ho
          go_wp2_with (first
            | (at_builtin; refine wpList_appV rfl _ _ 22 rfl Try.underlying22 _ 32 Try.infoPrt rfl (by decide) (by decide) prtV_len w.heap.size a cp L k HLEN.out rfl HC4.out w3.heap.size b rfl CX.out (prtV_one _) (by omega) WQ4.out ?_; intro d q w5 hg; have HG := hiddenC hg; clear hg)
            | (go_at_call 61; (with_reducible refine NX1.out.mono ?_); rintro e w3 ⟨v, rfl, ⟨b, hb1, rfl, hb3⟩, hA3⟩;  have HB1 := hiddenC hb1; have HB3 := hiddenC hb3; have HA3 := hiddenC (HA.out.trans hA3); have BU := hiddenC hA3.but; clear hb1 hb3 hA3; have b4 := (Below.refl w3.heap.size w3).alloc (Nat.le_refl _) (.cells #[.int .u8 (b.1.tag : Int), .slice b.2.1 b.1.ps.length b.2.2] 45); have BE4 := hiddenC b4; have HC4 := hiddenC ((HC.out.but BU.out (HC.out.ne_type HA.out.box (by decide))).later b4); have WQ4 : Hid (w.heap.size ≤ (w3.alloc (.cells #[.int .u8 (b.1.tag : Int), .slice b.2.1 b.1.ps.length b.2.2] 45)).heap.size) := Nat.le_trans HA3.out.but.size b4.size; have CX : Hid (∀ j u, (prtV b)[j]? = some u → (w3.alloc (.cells #[.int .u8 (b.1.tag : Int), .slice b.2.1 b.1.ps.length b.2.2] 45)).cell? ⟨w3.heap.size, j, none⟩ = some u) := (fun j u hu => (blkA_new 45 w3 #[.int .u8 (b.1.tag : Int), .slice b.2.1 b.1.ps.length b.2.2]).cell (by rw [← Array.getElem?_toList]; exact hu)); clear b4))
          have HA5 : Hid (RdA R D m' w w5) := by
            have q := HA3.out.below BE4.out
            refine ⟨q.box.keep (HG.out.keep R q.box.lt (fun y hy => HC4.out.ne_type q.box (by decide) y hy)), ⟨HG.out.os.trans q.but.os, HG.out.tape.trans q.but.tape, HG.out.output.trans q.but.output, Nat.le_trans q.but.size HG.out.size, fun i hi hne => ?_⟩, q.le⟩
            exact (HG.out.keep i (Nat.lt_of_lt_of_le hi q.but.size) (fun y hy => by have := (HC4.out.lt y hy).1; omega)).trans (q.but.block i hi hne)
          have HS5 : Hid (∀ x ∈ L ++ [b], prtS w.heap.size x w5) := fun x hx => by
            have go : ∀ x, CapV 3 iV 1 w.heap.size w3 x.2.1 x.2.2 x.1.ps → prtS w.heap.size x w5 := fun x hx => by
              have h1 := hx.later BE4.out
              exact h1.keep fun y hy => HG.out.keep y.block (h1.lt y hy).2 (fun z hz => HC4.out.ne_row h1 (by decide) z y hz hy)
            rcases List.mem_append.1 hx with hx | hx
            · exact go x (CapV.but (HS.out x hx) BU.out (CapV.ne_type (HS.out x hx) HA.out.box (by decide)))
            · rw [List.mem_singleton.1 hx]
              exact go b (CapV.mono HB3.out WQ.out)
          go_roundg (n - (k + 1))
          case measure => omega
          case rel => exact ⟨k + 1, m', _, d, q, L ++ [b], by omega, rfl, rfl, by go_num, HROW2.out, by rw [List.map_append, HMAP.out]; exact congrArg (l ++ ·) (congrArg (fun z => [z]) HB1.out), by rw [List.length_append, HLEN.out]; rfl, HA5.out, HG.out.own, HS5.out⟩
      · have hki : ¬ (k : Int) < (n : Int) := by omega
        have ek : k = n := by omega
        have HROW2 := HROW.out
        rw [ek] at HROW2
        have HR2 := hiddenC HROW2
        clear HROW HROW2 NX MN
        go_wp2
        rw [← HPE.out, E.out, HR2.out]
        refine ⟨_, rfl, ?_, HA.out⟩
        refine ⟨a, cp, L, ?_, HMAP.out, HC.out, HS.out⟩
        exact congrArg (fun x => Value.slice a x cp) (by rw [← HMAP.out, List.length_map, HLEN.out, ek])
set_option maxRecDepth 100000 in
set_option maxHeartbeats 8000000 in
theorem rdLines_any (R : Nat) (D : List UInt8) (j : Nat) (w : World) (h : BlkA 83 R w (rdV D j)) (hj : j ≤ D.length) (hD : D.length ≤ 4611686018427387904) (most : Nat) (hmost : most < 2097152)
    (hone : ∀ k U, BlkA 83 R U (rdV D k) → k ≤ D.length → Calls Try.prog 63 #[.pointer (some ⟨R, 0, none⟩)] U (RdE R D U (linR D k) (fun a w' v => ∃ b : LinC × (Option Addr × Nat), Prod.fst b = a ∧ v = .agg #[.int .i64 b.1.base, .int .i64 b.1.size, .slice b.2.1 b.1.start.length b.2.2] ∧ linS U.heap.size b w'))) :
    Calls Try.prog 62 #[.pointer (some ⟨R, 0, none⟩), .int .i64 (most : Int), .func (.func 63) #[.pointer (some ⟨R, 0, none⟩)] #[]] w (RdE R D w (listR most linR D j) (RowS 49 linV 3 Prod.fst linS w.heap.size)) := by
  obtain ⟨PE, hPE⟩ : ∃ Q : Ending → World → Prop, RdE R D w (listR most linR D j) (RowS 49 linV 3 Prod.fst linS w.heap.size) = Q := ⟨_, rfl⟩
  rw [hPE]
  have HPE := hiddenC hPE
  have MN := hiddenC (rdMany_any R D j w h hj hD most)
  have NX := hiddenC hone
  clear hPE
  cases hr : manyR most D j with
  | error x =>
    rw [hr] at MN
    have E : Hid (listR most linR D j = .error x) := thenR_err hr
    clear h hj hD hr hone NX
    go_enter Try.func62, Try.ntmps62
    go_wp2_with (go_at_call 81; (with_reducible refine MN.out.mono ?_); rintro e w2 ⟨rfl, h2⟩; have H2 := hiddenC h2; clear h2)
    refine ⟨rfl, ?_⟩
    rw [← HPE.out, E.out]
    exact ⟨rfl, H2.out⟩
  | ok p =>
    obtain ⟨n, k0⟩ := p
    rw [hr] at MN
    have E : Hid (listR most linR D j = rowR linR n D k0) := by show _ = _; unfold listR; rw [thenR_ok hr]
    have hn := many_le hmost hj hr
    have hnb : n ≤ 2097152 := by omega
    clear h hj hD hr hone hn
    go_enter Try.func62, Try.ntmps62
    go_wp2_with (go_at_call 81; (with_reducible refine MN.out.mono ?_); rintro e w2 ⟨v, rfl, hv, h2⟩; have H2 := hiddenC h2; obtain rfl : v = .int .i64 (n : Int) := hv; clear h2)
    go_loopg [7, 11] n (fun gk u v wr => ∃ (k m : Nat) (l : List _) (a : Option Addr) (cp : Nat) (L : List (LinC × (Option Addr × Nat))), k ≤ n ∧ gk = n - k ∧ u = .slice a k cp ∧ v = .int .i64 (k : Int) ∧ rowR linR k D k0 = .ok (l, m) ∧ L.map Prod.fst = l ∧ L.length = k ∧ RdA R D m w wr ∧ CapV 49 linV 3 w.heap.size wr a cp L ∧ ∀ b ∈ L, linS w.heap.size b wr)
    case atStart => exact ⟨0, k0, [], none, 0, [], Nat.zero_le _, rfl, rfl, rfl, rfl, rfl, rfl, H2.out, CapV.nil _ _, (fun b hb => by cases hb)⟩
    case round =>
      obtain ⟨k, m, l, a, cp, L, hk, rfl, rfl, rfl, hrow, hmap, hlen, hA, hC, hS⟩ := hrel
      have HROW := hiddenC hrow
      have HMAP := hiddenC hmap
      have HLEN := hiddenC hlen
      have HA := hiddenC hA
      have HC := hiddenC hC
      have HS := hiddenC hS
      have WQ : Hid (w.heap.size ≤ wr.heap.size) := hA.but.size
      clear hrow hmap hlen hA hC hS
      by_cases hlt : k < n
      · have hki : (k : Int) < (n : Int) := by omega
        have NX1 := hiddenC (NX.out m wr HA.out.box HA.out.le)
        cases ho : linR D m with
        | error x =>
          rw [ho] at NX1
          have E2 : Hid (rowR linR n D k0 = .error x) := by
            have q := row_err (row_err1 HROW.out ho) (n - (k + 1))
            rw [show k + 1 + (n - (k + 1)) = n by omega] at q
            exact q
          clear HROW ho
          go_wp2_with (go_at_call 63; (with_reducible refine NX1.out.mono ?_); rintro e w3 ⟨rfl, h3⟩; have H3 := hiddenC (HA.out.transZ h3); clear h3)
          refine ⟨rfl, ?_⟩
          rw [← HPE.out, E.out, E2.out]
          exact ⟨rfl, H3.out⟩
        | ok p =>
          obtain ⟨x, m'⟩ := p
          rw [ho] at NX1
          have HROW2 := hiddenC (row_ok HROW.out ho)
          clear HROW ho
          go_wp2_with (first
            | (at_builtin; refine wpList_appV rfl _ _ 23 rfl Try.underlying23 _ 40 Try.infoLin rfl (by decide) (by decide) linV_len w.heap.size a cp L k HLEN.out rfl HC4.out w3.heap.size b rfl CX.out (linV_one _) (by omega) WQ4.out ?_; intro d q w5 hg; have HG := hiddenC hg; clear hg)
            | (go_at_call 63; (with_reducible refine NX1.out.mono ?_); rintro e w3 ⟨v, rfl, ⟨b, hb1, rfl, hb3⟩, hA3⟩;  have HB1 := hiddenC hb1; have HB3 := hiddenC hb3; have HA3 := hiddenC (HA.out.trans hA3); have BU := hiddenC hA3.but; clear hb1 hb3 hA3; have b4 := (Below.refl w3.heap.size w3).alloc (Nat.le_refl _) (.cells #[.int .i64 b.1.base, .int .i64 b.1.size, .slice b.2.1 b.1.start.length b.2.2] 49); have BE4 := hiddenC b4; have HC4 := hiddenC ((HC.out.but BU.out (HC.out.ne_type HA.out.box (by decide))).later b4); have WQ4 : Hid (w.heap.size ≤ (w3.alloc (.cells #[.int .i64 b.1.base, .int .i64 b.1.size, .slice b.2.1 b.1.start.length b.2.2] 49)).heap.size) := Nat.le_trans HA3.out.but.size b4.size; have CX : Hid (∀ j u, (linV b)[j]? = some u → (w3.alloc (.cells #[.int .i64 b.1.base, .int .i64 b.1.size, .slice b.2.1 b.1.start.length b.2.2] 49)).cell? ⟨w3.heap.size, j, none⟩ = some u) := (fun j u hu => (blkA_new 49 w3 #[.int .i64 b.1.base, .int .i64 b.1.size, .slice b.2.1 b.1.start.length b.2.2]).cell (by rw [← Array.getElem?_toList]; exact hu)); clear b4))
          have HA5 : Hid (RdA R D m' w w5) := by
            have q := HA3.out.below BE4.out
            refine ⟨q.box.keep (HG.out.keep R q.box.lt (fun y hy => HC4.out.ne_type q.box (by decide) y hy)), ⟨HG.out.os.trans q.but.os, HG.out.tape.trans q.but.tape, HG.out.output.trans q.but.output, Nat.le_trans q.but.size HG.out.size, fun i hi hne => ?_⟩, q.le⟩
            exact (HG.out.keep i (Nat.lt_of_lt_of_le hi q.but.size) (fun y hy => by have := (HC4.out.lt y hy).1; omega)).trans (q.but.block i hi hne)
          have HS5 : Hid (∀ x ∈ L ++ [b], linS w.heap.size x w5) := fun x hx => by
            have go : ∀ x, CapV 3 iV 1 w.heap.size w3 x.2.1 x.2.2 x.1.start → linS w.heap.size x w5 := fun x hx => by
              have h1 := hx.later BE4.out
              exact h1.keep fun y hy => HG.out.keep y.block (h1.lt y hy).2 (fun z hz => HC4.out.ne_row h1 (by decide) z y hz hy)
            rcases List.mem_append.1 hx with hx | hx
            · exact go x (CapV.but (HS.out x hx) BU.out (CapV.ne_type (HS.out x hx) HA.out.box (by decide)))
            · rw [List.mem_singleton.1 hx]
              exact go b (CapV.mono HB3.out WQ.out)
          go_roundg (n - (k + 1))
          case measure => omega
          case rel => exact ⟨k + 1, m', _, d, q, L ++ [b], by omega, rfl, rfl, by go_num, HROW2.out, by rw [List.map_append, HMAP.out]; exact congrArg (l ++ ·) (congrArg (fun z => [z]) HB1.out), by rw [List.length_append, HLEN.out]; rfl, HA5.out, HG.out.own, HS5.out⟩
      · have hki : ¬ (k : Int) < (n : Int) := by omega
        have ek : k = n := by omega
        have HROW2 := HROW.out
        rw [ek] at HROW2
        have HR2 := hiddenC HROW2
        clear HROW HROW2 NX MN
        go_wp2
        rw [← HPE.out, E.out, HR2.out]
        refine ⟨_, rfl, ?_, HA.out⟩
        refine ⟨a, cp, L, ?_, HMAP.out, HC.out, HS.out⟩
        exact congrArg (fun x => Value.slice a x cp) (by rw [← HMAP.out, List.length_map, HLEN.out, ek])
end Go.Proofs.Ytdjplmlfcolklaa

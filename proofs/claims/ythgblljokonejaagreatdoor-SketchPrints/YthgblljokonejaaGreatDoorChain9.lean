/- Texts of one chain, laid one behind the other. -/
import Derived.Test.YthgblljokonejaaGreatDoorChain7
import Derived.Test.YthgblljokonejaaGreatDoorChain8
import Derived.Test.YthgblljokonejaaGreatDoorShelf
import Derived.Laws.Concat
/- lex's oneForm, and the reader's number. -/
namespace Go.Proofs.YthgblljokonejaaGreatDoor
open Go.ChangeShapes Go.WideShapes Go.ChangeAt Go.RowKit

theorem str_list (l : List UInt8) : (str l).toList = l := ByteArray.toList_mk l
theorem oneForm_any (neg : Bool) (ds : List UInt8) (hne : 0 < ds.length) (hl : ds.length ≤ 1048576) (w : World) :
    Calls Tryz.prog 82 #[.string (str (sgn neg)), .string (str ds)] w fun e w' => e = .returned (.bool (oneB neg ds)) ∧ w = w' := by
  have e1 := str_size ds
  have g := str_get ds 0 (by rw [e1]; exact hne)
  have i0 : (0 : Int) < (ds.length : Int) := by omega
  have e2 := str_list (sgn neg)
  have e3 : (ByteArray.mk #[]).toList = ([] : List UInt8) := str_list []
  have eo : oneB neg ds = (!decide (by8 ds 0 = 48) || (decide (ds.length = 1) && !neg)) := rfl
  rw [eo]
  clear eo
  generalize by8 ds 0 = x at *
  by_cases h1 : x = 48
  · subst h1
    by_cases h2 : ds.length = 1
    · have h3 : decide ((ds.length : Int) = 1) = true := decide_eq_true (by omega)
      have h4 : decide (ds.length = 1) = true := decide_eq_true h2
      rw [h4]
      cases neg
      · have e4 : sgn false = [] := rfl
        rw [e4] at e2 ⊢
        go_enter Tryz.func82, Tryz.ntmps82
        go_wp2
        go_ret
        exact ⟨rfl, rfl⟩
      · have e4 : sgn true = [45] := rfl
        rw [e4] at e2 ⊢
        go_enter Tryz.func82, Tryz.ntmps82
        go_wp2
        go_ret
        exact ⟨rfl, rfl⟩
    · have h3 : decide ((ds.length : Int) = 1) = false := decide_eq_false (by omega)
      have h4 : decide (ds.length = 1) = false := decide_eq_false h2
      rw [h4]
      go_enter Tryz.func82, Tryz.ntmps82
      go_wp2
      go_ret
      exact ⟨rfl, rfl⟩
  · have h3 : decide (x = 48) = false := decide_eq_false h1
    rw [h3]
    go_enter Tryz.func82, Tryz.ntmps82
    go_wp2
    go_ret
    exact ⟨rfl, rfl⟩

/-- What the reader of numbers asks of the world: strconv's own error stands where it was laid. -/
def Env (w : World) : Prop := ∃ te pe, w.cell? ⟨1, 0, none⟩ = some (.iface te pe)
theorem Env.lt {w : World} (h : Env w) : 1 < w.heap.size := by obtain ⟨te, pe, h⟩ := h; exact block_lt_of_cell h
theorem Env.grown {w w' : World} {b : Nat} (h : Env w) (hg : w.grownBy w' (some b)) (hb : b ≠ 1) : Env w' := by
  obtain ⟨te, pe, h⟩ := h
  exact ⟨te, pe, hg.cell h (fun e => hb (Option.some.inj e).symm)⟩
theorem Env.below {w w' : World} (h : Env w) (hb : Below w.heap.size w w') : Env w' := by
  obtain ⟨te, pe, h⟩ := h
  exact ⟨te, pe, (hb.cell (block_lt_of_cell h)).trans h⟩
/-- How strconv.Atoi ends over a row of digits with its sign. -/
def AtoiEnd (v : Int) (ok : Bool) (w : World) (e : Ending) (w' : World) : Prop :=
  (if ok then e = .returned (.tuple #[.int .i64 v, .nilIface]) else ∃ t x y, e = .returned (.tuple #[.int .i64 x, .iface t y])) ∧ Below w.heap.size w w'
theorem atoi_any (neg : Bool) (ds : List UInt8) (hne : ds ≠ []) (hd : allD ds) (hl : ds.length ≤ 1048576) (w : World) (hE : Env w) :
    Calls Tryz.prog 83 #[.string (str (sgn neg ++ ds))] w (AtoiEnd (signed neg (decV 0 ds)) (fits8 (signed neg (decV 0 ds))) w) := by
  have ha := atoi_signed neg hne hd
  have hs : (str (sgn neg ++ ds)).size ≤ 1048577 := by
    rw [str_size, List.length_append]
    cases neg
    · show 0 + ds.length ≤ _; omega
    · show 1 + ds.length ≤ _; omega
  have hd : (str (sgn neg ++ ds)).data.toList = sgn neg ++ ds := rfl
  by_cases hf : fits8 (signed neg (decV 0 ds)) = true
  · rw [if_pos hf] at ha
    rw [hf]
    refine (Tryz.strconv_Atoi_ok _ (by omega) _ (by rw [hd]; exact ha) w).mono ?_
    rintro e w' ⟨rfl, hw⟩
    refine ⟨rfl, ?_⟩
    rcases hw with rfl | ⟨t, rfl⟩
    · exact Below.refl _ _
    · exact Lib.bytesWorld_below _ _ _
  · rw [if_neg hf] at ha
    have hf' : fits8 (signed neg (decV 0 ds)) = false := by simpa using hf
    rw [hf']
    obtain ⟨te, pe, hv⟩ := hE
    refine (Tryz.strconv_Atoi_range _ (by omega) (by rw [hd]; exact ha) _ w hv (Or.inr ⟨te, pe, rfl⟩)).mono ?_
    rintro e w' ⟨N, rfl, -, -, hb⟩
    exact ⟨⟨_, _, _, rfl⟩, hb⟩
theorem take_one {l : List UInt8} (h : by8 l 0 = 45) : l.take 1 = sgn true := by
  cases l with
  | nil => simp [by8] at h
  | cons c r =>
    rw [by8_zero] at h
    have : c = 45 := by
      apply UInt8.toNat.inj
      show c.toNat = 45
      omega
    subst this
    rfl
theorem row_pos {p : Int → Bool} {l : List UInt8} (h : p (by8 l 0) = true) (h0 : by8 l 0 ≠ 0) : 0 < rowN p l := by
  cases l with
  | nil => exact absurd rfl h0
  | cons c r =>
    rw [by8_zero] at h
    simp [rowN, h]

set_option maxHeartbeats 1000000 in
theorem number_plain_form (T : TypeId) (b : Nat) (l : List UInt8) (p N : Nat) (ds : List UInt8) (w : World) (h : Cur T b l p w) (hb1 : b ≠ 1) (hp : p ≤ l.length) (hl : l.length ≤ 1048576) (hE : Env w)
    (hx : by8 (l.drop p) 0 ≠ 45) (hN : rowN digB (l.drop p) = N) (hds : (l.drop p).take N = ds) (hne : 0 < ds.length) (ho : oneB false ds = false)
    : Calls Tryz.prog 65 #[.pointer (some ⟨b, 0, none⟩)] w (OneEnd T b l p ⟨noTok, 41, 0⟩ w) := by
  have HA : Hid (∀ W, Cur T b l p W → Calls Tryz.prog 59 #[.pointer (some ⟨b, 0, none⟩), .int .i64 0] W fun e w' => e = .returned (.int .u8 (by8 (l.drop p) 0)) ∧ Moved T b l p W w') :=
    fun W hc => (ahead_any T b l p 0 W hc hp hl (by decide)).mono fun _ _ ⟨h1, m, h2⟩ => ⟨h1, by rw [h2]; exact Moved.drew hc m⟩
  have HR : Hid (∀ W, Cur T b l p W → Calls Tryz.prog 57 #[.pointer (some ⟨b, 0, none⟩), .func (.func 64) #[] #[]] W fun e w' => e = .returned (.string (str ds)) ∧ Moved T b l (p + N) W w') := fun W hc => by
    have := row_any T _ _ tells_digit b l p W hc (by omega) hl
    rw [hN, hds] at this
    exact this
  have hdl : ds.length ≤ 1048576 := by rw [← hds, List.length_take, List.length_drop]; omega
  have HO := hidden (oneForm_any false ds hne hdl)
  rw [ho] at HO
  have hx' : decide (by8 (l.drop p) 0 = 45) = false := decide_eq_false hx
  have e0 : str (sgn false) = ⟨#[]⟩ := rfl
  rw [e0] at HO
  generalize by8 (l.drop p) 0 = x at *
  have HH := hidden h
  have hb := h.lt
  have HE := hidden hE
  have HC : Hid (∀ o, Cur T b l p (w.alloc o)) := fun o => h.alloc o
  have z2 := str_size ds
  have z4 : ¬ (9223372036854775807 < 0 + ds.length) := by omega
  clear h hE hN hds hne
  go_enter Tryz.func65, Tryz.ntmps65
  go_wp2_with (first
    | (go_at_call 82; (with_reducible refine (HO.out _).mono ?_); rintro e w' ⟨rfl, rfl⟩; have BX := B3; obtain ⟨x1, y1, z5, u1, c0, c1, c2, c3, f0, f1, f2, f3⟩ := BX.out.parts)
    | (go_at_call 57; (with_reducible refine (HR.out _ C2.out).mono ?_); rintro e w3 ⟨rfl, hm3⟩; have M3 := hidden hm3; have B3 : Hid (Box w.heap.size w3) := B2.out.grown hm3.grown (by omega); have E3 : Hid (Env w3) := HE.out.grown (Lib.grownBy_trans G2.out hm3.grown) hb1; clear hm3)
    | (go_at_call 59; (with_reducible refine (HA.out _ (HC.out _)).mono ?_); rintro e w1 ⟨rfl, hm1⟩; have C2 := hidden hm1.cur; have G2 : Hid (w.grownBy w1 (some b)) := Lib.grownBy_trans (grown_alloc w _ _) hm1.grown; have B2 : Hid (Box w.heap.size w1) := (box_new w _ _ _ _).grown hm1.grown (by omega); clear hm1))
  exact bodyPost_ret (v := .tuple #[tokV noTok, .int .i64 41]) (by simp [results, Tryz.results65, go_sem, c0, c1, c2, c3, tokV, noTok, str]) rfl ⟨rfl, set4_grown (Lib.grownBy_trans G2.out M3.out.grown) (Nat.le_refl _), fun h => by cases h⟩

set_option maxHeartbeats 1000000 in
theorem number_plain_fits (T : TypeId) (b : Nat) (l : List UInt8) (p N : Nat) (ds : List UInt8) (w : World) (h : Cur T b l p w) (hb1 : b ≠ 1) (hp : p ≤ l.length) (hl : l.length ≤ 1048576) (hE : Env w)
    (hx : by8 (l.drop p) 0 ≠ 45) (hN : rowN digB (l.drop p) = N) (hds : (l.drop p).take N = ds) (hne : 0 < ds.length) (hd : allD ds) (ho : oneB false ds = true) (hf : fits8 (signed false (decV 0 ds)) = true)
    : Calls Tryz.prog 65 #[.pointer (some ⟨b, 0, none⟩)] w (OneEnd T b l p ⟨⟨2, [], signed false (decV 0 ds), 0⟩, 0, 0 + N⟩ w) := by
  have HA : Hid (∀ W, Cur T b l p W → Calls Tryz.prog 59 #[.pointer (some ⟨b, 0, none⟩), .int .i64 0] W fun e w' => e = .returned (.int .u8 (by8 (l.drop p) 0)) ∧ Moved T b l p W w') :=
    fun W hc => (ahead_any T b l p 0 W hc hp hl (by decide)).mono fun _ _ ⟨h1, m, h2⟩ => ⟨h1, by rw [h2]; exact Moved.drew hc m⟩
  have HR : Hid (∀ W, Cur T b l p W → Calls Tryz.prog 57 #[.pointer (some ⟨b, 0, none⟩), .func (.func 64) #[] #[]] W fun e w' => e = .returned (.string (str ds)) ∧ Moved T b l (p + N) W w') := fun W hc => by
    have := row_any T _ _ tells_digit b l p W hc (by omega) hl
    rw [hN, hds] at this
    exact this
  have hdl : ds.length ≤ 1048576 := by rw [← hds, List.length_take, List.length_drop]; omega
  have HO := hidden (oneForm_any false ds hne hdl)
  rw [ho] at HO
  have HI := hidden (atoi_any false ds (fun e => by rw [e] at hne; cases hne) hd hdl)
  rw [hf] at HI
  obtain ⟨A, hA⟩ : ∃ A, str (sgn false ++ ds) = A := ⟨_, rfl⟩
  rw [hA] at HI
  have hx' : decide (by8 (l.drop p) 0 = 45) = false := decide_eq_false hx
  have e0 : str (sgn false) = ⟨#[]⟩ := rfl
  rw [e0] at HO
  generalize by8 (l.drop p) 0 = x at *
  have HH := hidden h
  have hb := h.lt
  have HE := hidden hE
  have HC : Hid (∀ o, Cur T b l p (w.alloc o)) := fun o => h.alloc o
  have z1 : (ByteArray.mk #[]).size = 0 := rfl
  have z3 : ByteArray.mk #[] ++ str ds = A := by rw [← hA]; exact ByteArray.mk_append_mk [] ds
  clear hA
  have z2 := str_size ds
  have z4 : ¬ (9223372036854775807 < 0 + ds.length) := by omega
  clear h hE hN hds hd hne
  generalize signed false (decV 0 ds) = val at *
  go_enter Tryz.func65, Tryz.ntmps65
  go_wp2_with (first
    | (go_at_call 83; (with_reducible refine (HI.out _ E3.out).mono ?_); rintro e w4 ⟨he, hb4⟩; subst he; have BX : Hid (Box w.heap.size w4) := B3.out.below hb4; have M4 : Hid (Cur T b l (p + N) w4 ∧ w.grownBy w4 (some b)) := ⟨M3.out.cur.below hb4, Lib.grownBy_below (Lib.grownBy_trans G2.out M3.out.grown) hb4⟩; clear hb4; obtain ⟨x1, y1, z5, u1, c0, c1, c2, c3, f0, f1, f2, f3⟩ := BX.out.parts)
    | (go_at_call 82; (with_reducible refine (HO.out _).mono ?_); rintro e w' ⟨rfl, rfl⟩)
    | (go_at_call 57; (with_reducible refine (HR.out _ C2.out).mono ?_); rintro e w3 ⟨rfl, hm3⟩; have M3 := hidden hm3; have B3 : Hid (Box w.heap.size w3) := B2.out.grown hm3.grown (by omega); have E3 : Hid (Env w3) := HE.out.grown (Lib.grownBy_trans G2.out hm3.grown) hb1; clear hm3)
    | (go_at_call 59; (with_reducible refine (HA.out _ (HC.out _)).mono ?_); rintro e w1 ⟨rfl, hm1⟩; have C2 := hidden hm1.cur; have G2 : Hid (w.grownBy w1 (some b)) := Lib.grownBy_trans (grown_alloc w _ _) hm1.grown; have B2 : Hid (Box w.heap.size w1) := (box_new w _ _ _ _).grown hm1.grown (by omega); clear hm1))
  exact bodyPost_ret (v := .tuple #[tokV ⟨2, [], val, 0⟩, .int .i64 0]) (by simp [results, Tryz.results65, go_sem, c0, c1, c2, c3, tokV, str]) rfl ⟨rfl, set4_grown M4.out.2 (Nat.le_refl _), fun _ => set4_cur (by have := M4.out.1; rw [show p + (0 + N) = p + N from by rw [Nat.zero_add]]; exact this) (by omega)⟩

set_option maxHeartbeats 1000000 in
theorem number_plain_range (T : TypeId) (b : Nat) (l : List UInt8) (p N : Nat) (ds : List UInt8) (w : World) (h : Cur T b l p w) (hb1 : b ≠ 1) (hp : p ≤ l.length) (hl : l.length ≤ 1048576) (hE : Env w)
    (hx : by8 (l.drop p) 0 ≠ 45) (hN : rowN digB (l.drop p) = N) (hds : (l.drop p).take N = ds) (hne : 0 < ds.length) (hd : allD ds) (ho : oneB false ds = true) (hf : fits8 (signed false (decV 0 ds)) = false)
    : Calls Tryz.prog 65 #[.pointer (some ⟨b, 0, none⟩)] w (OneEnd T b l p ⟨noTok, 41, 0⟩ w) := by
  have HA : Hid (∀ W, Cur T b l p W → Calls Tryz.prog 59 #[.pointer (some ⟨b, 0, none⟩), .int .i64 0] W fun e w' => e = .returned (.int .u8 (by8 (l.drop p) 0)) ∧ Moved T b l p W w') :=
    fun W hc => (ahead_any T b l p 0 W hc hp hl (by decide)).mono fun _ _ ⟨h1, m, h2⟩ => ⟨h1, by rw [h2]; exact Moved.drew hc m⟩
  have HR : Hid (∀ W, Cur T b l p W → Calls Tryz.prog 57 #[.pointer (some ⟨b, 0, none⟩), .func (.func 64) #[] #[]] W fun e w' => e = .returned (.string (str ds)) ∧ Moved T b l (p + N) W w') := fun W hc => by
    have := row_any T _ _ tells_digit b l p W hc (by omega) hl
    rw [hN, hds] at this
    exact this
  have hdl : ds.length ≤ 1048576 := by rw [← hds, List.length_take, List.length_drop]; omega
  have HO := hidden (oneForm_any false ds hne hdl)
  rw [ho] at HO
  have HI := hidden (atoi_any false ds (fun e => by rw [e] at hne; cases hne) hd hdl)
  rw [hf] at HI
  obtain ⟨A, hA⟩ : ∃ A, str (sgn false ++ ds) = A := ⟨_, rfl⟩
  rw [hA] at HI
  have hx' : decide (by8 (l.drop p) 0 = 45) = false := decide_eq_false hx
  have e0 : str (sgn false) = ⟨#[]⟩ := rfl
  rw [e0] at HO
  generalize by8 (l.drop p) 0 = x at *
  have HH := hidden h
  have hb := h.lt
  have HE := hidden hE
  have HC : Hid (∀ o, Cur T b l p (w.alloc o)) := fun o => h.alloc o
  have z1 : (ByteArray.mk #[]).size = 0 := rfl
  have z3 : ByteArray.mk #[] ++ str ds = A := by rw [← hA]; exact ByteArray.mk_append_mk [] ds
  clear hA
  have z2 := str_size ds
  have z4 : ¬ (9223372036854775807 < 0 + ds.length) := by omega
  clear h hE hN hds hd hne
  go_enter Tryz.func65, Tryz.ntmps65
  go_wp2_with (first
    | (go_at_call 83; (with_reducible refine (HI.out _ E3.out).mono ?_); rintro e w4 ⟨⟨t9, x9, y9, he⟩, hb4⟩; subst he; have BX : Hid (Box w.heap.size w4) := B3.out.below hb4; have M4 : Hid (w.grownBy w4 (some b)) := Lib.grownBy_below (Lib.grownBy_trans G2.out M3.out.grown) hb4; clear hb4; obtain ⟨x1, y1, z5, u1, c0, c1, c2, c3, f0, f1, f2, f3⟩ := BX.out.parts)
    | (go_at_call 82; (with_reducible refine (HO.out _).mono ?_); rintro e w' ⟨rfl, rfl⟩)
    | (go_at_call 57; (with_reducible refine (HR.out _ C2.out).mono ?_); rintro e w3 ⟨rfl, hm3⟩; have M3 := hidden hm3; have B3 : Hid (Box w.heap.size w3) := B2.out.grown hm3.grown (by omega); have E3 : Hid (Env w3) := HE.out.grown (Lib.grownBy_trans G2.out hm3.grown) hb1; clear hm3)
    | (go_at_call 59; (with_reducible refine (HA.out _ (HC.out _)).mono ?_); rintro e w1 ⟨rfl, hm1⟩; have C2 := hidden hm1.cur; have G2 : Hid (w.grownBy w1 (some b)) := Lib.grownBy_trans (grown_alloc w _ _) hm1.grown; have B2 : Hid (Box w.heap.size w1) := (box_new w _ _ _ _).grown hm1.grown (by omega); clear hm1))
  exact bodyPost_ret (v := .tuple #[tokV noTok, .int .i64 41]) (by simp [results, Tryz.results65, go_sem, c0, c1, c2, c3, tokV, noTok, str]) rfl ⟨rfl, set4_grown M4.out (Nat.le_refl _), fun h => by cases h⟩

set_option maxHeartbeats 1000000 in
theorem number_minus_form (T : TypeId) (b : Nat) (l : List UInt8) (p N : Nat) (ds : List UInt8) (w : World) (h : Cur T b l p w) (hb1 : b ≠ 1) (hp : p ≤ l.length) (hl : l.length ≤ 1048576) (hE : Env w)
    (hx : by8 (l.drop p) 0 = 45) (hN : rowN digB (l.drop (p + 1)) = N) (hds : (l.drop (p + 1)).take N = ds) (hne : 0 < ds.length) (ho : oneB true ds = false)
    : Calls Tryz.prog 65 #[.pointer (some ⟨b, 0, none⟩)] w (OneEnd T b l p ⟨noTok, 41, 0⟩ w) := by
  have hp1 : p + 1 ≤ l.length := by
    rcases Nat.lt_or_ge p l.length with h | h
    · exact h
    · rw [by8_end (by rw [List.length_drop]; omega)] at hx; cases hx
  have HA : Hid (∀ W, Cur T b l p W → Calls Tryz.prog 59 #[.pointer (some ⟨b, 0, none⟩), .int .i64 0] W fun e w' => e = .returned (.int .u8 (by8 (l.drop p) 0)) ∧ Moved T b l p W w') :=
    fun W hc => (ahead_any T b l p 0 W hc hp hl (by decide)).mono fun _ _ ⟨h1, m, h2⟩ => ⟨h1, by rw [h2]; exact Moved.drew hc m⟩
  have HT : Hid (∀ W, Cur T b l p W → Calls Tryz.prog 81 #[.pointer (some ⟨b, 0, none⟩), .int .i64 1] W fun e w' => e = .returned (.string (str (sgn true))) ∧ Moved T b l (p + 1) W w') := fun W hc => by
    have := take_any T b l p 1 W hc hp1 hl
    rw [take_one hx] at this
    exact this
  have HR : Hid (∀ W, Cur T b l (p + 1) W → Calls Tryz.prog 57 #[.pointer (some ⟨b, 0, none⟩), .func (.func 64) #[] #[]] W fun e w' => e = .returned (.string (str ds)) ∧ Moved T b l ((p + 1) + N) W w') := fun W hc => by
    have := row_any T _ _ tells_digit b l (p + 1) W hc (by omega) hl
    rw [hN, hds] at this
    exact this
  have hdl : ds.length ≤ 1048576 := by rw [← hds, List.length_take, List.length_drop]; omega
  have HO := hidden (oneForm_any true ds hne hdl)
  rw [ho] at HO
  rw [hx] at HA
  have HH := hidden h
  have hb := h.lt
  have HE := hidden hE
  have HC : Hid (∀ o, Cur T b l p (w.alloc o)) := fun o => h.alloc o
  obtain ⟨SG, hSG⟩ : ∃ A, str (sgn true) = A := ⟨_, rfl⟩
  have z1 : SG.size = 1 := by rw [← hSG]; rfl
  rw [hSG] at HO HT
  clear hSG
  have z2 := str_size ds
  have z4 : ¬ (9223372036854775807 < 1 + ds.length) := by omega
  clear h hE hN hds hne hx
  go_enter Tryz.func65, Tryz.ntmps65
  go_wp2_with (first
    | (go_at_call 82; (with_reducible refine (HO.out _).mono ?_); rintro e w' ⟨rfl, rfl⟩; have BX := B3; obtain ⟨x1, y1, z5, u1, c0, c1, c2, c3, f0, f1, f2, f3⟩ := BX.out.parts)
    | (go_at_call 57; (with_reducible refine (HR.out _ C2.out).mono ?_); rintro e w3 ⟨rfl, hm3⟩; have M3 := hidden hm3; have B3 : Hid (Box w.heap.size w3) := B2.out.grown hm3.grown (by omega); have E3 : Hid (Env w3) := HE.out.grown (Lib.grownBy_trans G2.out hm3.grown) hb1; clear hm3)
    | (go_at_call 81; (with_reducible refine (HT.out _ CD.out).mono ?_); rintro e w2 ⟨rfl, hm2⟩; have C2 := hidden hm2.cur; have G2 : Hid (w.grownBy w2 (some b)) := Lib.grownBy_trans GD.out hm2.grown; have B2 : Hid (Box w.heap.size w2) := BD.out.grown hm2.grown (by omega); clear hm2)
    | (go_at_call 59; (with_reducible refine (HA.out _ (HC.out _)).mono ?_); rintro e w1 ⟨rfl, hm1⟩; have CD := hidden hm1.cur; have GD : Hid (w.grownBy w1 (some b)) := Lib.grownBy_trans (grown_alloc w _ _) hm1.grown; have BD : Hid (Box w.heap.size w1) := (box_new w _ _ _ _).grown hm1.grown (by omega); clear hm1))
  exact bodyPost_ret (v := .tuple #[tokV noTok, .int .i64 41]) (by simp [results, Tryz.results65, go_sem, c0, c1, c2, c3, tokV, noTok, str]) rfl ⟨rfl, set4_grown (Lib.grownBy_trans G2.out M3.out.grown) (Nat.le_refl _), fun h => by cases h⟩

set_option maxHeartbeats 1000000 in
theorem number_minus_fits (T : TypeId) (b : Nat) (l : List UInt8) (p N : Nat) (ds : List UInt8) (w : World) (h : Cur T b l p w) (hb1 : b ≠ 1) (hp : p ≤ l.length) (hl : l.length ≤ 1048576) (hE : Env w)
    (hx : by8 (l.drop p) 0 = 45) (hN : rowN digB (l.drop (p + 1)) = N) (hds : (l.drop (p + 1)).take N = ds) (hne : 0 < ds.length) (hd : allD ds) (ho : oneB true ds = true) (hf : fits8 (signed true (decV 0 ds)) = true)
    : Calls Tryz.prog 65 #[.pointer (some ⟨b, 0, none⟩)] w (OneEnd T b l p ⟨⟨2, [], signed true (decV 0 ds), 0⟩, 0, 1 + N⟩ w) := by
  have hp1 : p + 1 ≤ l.length := by
    rcases Nat.lt_or_ge p l.length with h | h
    · exact h
    · rw [by8_end (by rw [List.length_drop]; omega)] at hx; cases hx
  have HA : Hid (∀ W, Cur T b l p W → Calls Tryz.prog 59 #[.pointer (some ⟨b, 0, none⟩), .int .i64 0] W fun e w' => e = .returned (.int .u8 (by8 (l.drop p) 0)) ∧ Moved T b l p W w') :=
    fun W hc => (ahead_any T b l p 0 W hc hp hl (by decide)).mono fun _ _ ⟨h1, m, h2⟩ => ⟨h1, by rw [h2]; exact Moved.drew hc m⟩
  have HT : Hid (∀ W, Cur T b l p W → Calls Tryz.prog 81 #[.pointer (some ⟨b, 0, none⟩), .int .i64 1] W fun e w' => e = .returned (.string (str (sgn true))) ∧ Moved T b l (p + 1) W w') := fun W hc => by
    have := take_any T b l p 1 W hc hp1 hl
    rw [take_one hx] at this
    exact this
  have HR : Hid (∀ W, Cur T b l (p + 1) W → Calls Tryz.prog 57 #[.pointer (some ⟨b, 0, none⟩), .func (.func 64) #[] #[]] W fun e w' => e = .returned (.string (str ds)) ∧ Moved T b l ((p + 1) + N) W w') := fun W hc => by
    have := row_any T _ _ tells_digit b l (p + 1) W hc (by omega) hl
    rw [hN, hds] at this
    exact this
  have hdl : ds.length ≤ 1048576 := by rw [← hds, List.length_take, List.length_drop]; omega
  have HO := hidden (oneForm_any true ds hne hdl)
  rw [ho] at HO
  have HI := hidden (atoi_any true ds (fun e => by rw [e] at hne; cases hne) hd hdl)
  rw [hf] at HI
  obtain ⟨A, hA⟩ : ∃ A, str (sgn true ++ ds) = A := ⟨_, rfl⟩
  rw [hA] at HI
  rw [hx] at HA
  have HH := hidden h
  have hb := h.lt
  have HE := hidden hE
  have HC : Hid (∀ o, Cur T b l p (w.alloc o)) := fun o => h.alloc o
  obtain ⟨SG, hSG⟩ : ∃ A, str (sgn true) = A := ⟨_, rfl⟩
  have z1 : SG.size = 1 := by rw [← hSG]; rfl
  rw [hSG] at HO HT
  have z3 : SG ++ str ds = A := by rw [← hSG, ← hA]; exact ByteArray.mk_append_mk [45] ds
  clear hA
  clear hSG
  have z2 := str_size ds
  have z4 : ¬ (9223372036854775807 < 1 + ds.length) := by omega
  clear h hE hN hds hd hne hx
  generalize signed true (decV 0 ds) = val at *
  go_enter Tryz.func65, Tryz.ntmps65
  go_wp2_with (first
    | (go_at_call 83; (with_reducible refine (HI.out _ E3.out).mono ?_); rintro e w4 ⟨he, hb4⟩; subst he; have BX : Hid (Box w.heap.size w4) := B3.out.below hb4; have M4 : Hid (Cur T b l ((p + 1) + N) w4 ∧ w.grownBy w4 (some b)) := ⟨M3.out.cur.below hb4, Lib.grownBy_below (Lib.grownBy_trans G2.out M3.out.grown) hb4⟩; clear hb4; obtain ⟨x1, y1, z5, u1, c0, c1, c2, c3, f0, f1, f2, f3⟩ := BX.out.parts)
    | (go_at_call 82; (with_reducible refine (HO.out _).mono ?_); rintro e w' ⟨rfl, rfl⟩)
    | (go_at_call 57; (with_reducible refine (HR.out _ C2.out).mono ?_); rintro e w3 ⟨rfl, hm3⟩; have M3 := hidden hm3; have B3 : Hid (Box w.heap.size w3) := B2.out.grown hm3.grown (by omega); have E3 : Hid (Env w3) := HE.out.grown (Lib.grownBy_trans G2.out hm3.grown) hb1; clear hm3)
    | (go_at_call 81; (with_reducible refine (HT.out _ CD.out).mono ?_); rintro e w2 ⟨rfl, hm2⟩; have C2 := hidden hm2.cur; have G2 : Hid (w.grownBy w2 (some b)) := Lib.grownBy_trans GD.out hm2.grown; have B2 : Hid (Box w.heap.size w2) := BD.out.grown hm2.grown (by omega); clear hm2)
    | (go_at_call 59; (with_reducible refine (HA.out _ (HC.out _)).mono ?_); rintro e w1 ⟨rfl, hm1⟩; have CD := hidden hm1.cur; have GD : Hid (w.grownBy w1 (some b)) := Lib.grownBy_trans (grown_alloc w _ _) hm1.grown; have BD : Hid (Box w.heap.size w1) := (box_new w _ _ _ _).grown hm1.grown (by omega); clear hm1))
  exact bodyPost_ret (v := .tuple #[tokV ⟨2, [], val, 0⟩, .int .i64 0]) (by simp [results, Tryz.results65, go_sem, c0, c1, c2, c3, tokV, str]) rfl ⟨rfl, set4_grown M4.out.2 (Nat.le_refl _), fun _ => set4_cur (by have := M4.out.1; rw [show p + (1 + N) = p + 1 + N from (Nat.add_assoc p 1 N).symm]; exact this) (by omega)⟩

set_option maxHeartbeats 1000000 in
theorem number_minus_range (T : TypeId) (b : Nat) (l : List UInt8) (p N : Nat) (ds : List UInt8) (w : World) (h : Cur T b l p w) (hb1 : b ≠ 1) (hp : p ≤ l.length) (hl : l.length ≤ 1048576) (hE : Env w)
    (hx : by8 (l.drop p) 0 = 45) (hN : rowN digB (l.drop (p + 1)) = N) (hds : (l.drop (p + 1)).take N = ds) (hne : 0 < ds.length) (hd : allD ds) (ho : oneB true ds = true) (hf : fits8 (signed true (decV 0 ds)) = false)
    : Calls Tryz.prog 65 #[.pointer (some ⟨b, 0, none⟩)] w (OneEnd T b l p ⟨noTok, 41, 0⟩ w) := by
  have hp1 : p + 1 ≤ l.length := by
    rcases Nat.lt_or_ge p l.length with h | h
    · exact h
    · rw [by8_end (by rw [List.length_drop]; omega)] at hx; cases hx
  have HA : Hid (∀ W, Cur T b l p W → Calls Tryz.prog 59 #[.pointer (some ⟨b, 0, none⟩), .int .i64 0] W fun e w' => e = .returned (.int .u8 (by8 (l.drop p) 0)) ∧ Moved T b l p W w') :=
    fun W hc => (ahead_any T b l p 0 W hc hp hl (by decide)).mono fun _ _ ⟨h1, m, h2⟩ => ⟨h1, by rw [h2]; exact Moved.drew hc m⟩
  have HT : Hid (∀ W, Cur T b l p W → Calls Tryz.prog 81 #[.pointer (some ⟨b, 0, none⟩), .int .i64 1] W fun e w' => e = .returned (.string (str (sgn true))) ∧ Moved T b l (p + 1) W w') := fun W hc => by
    have := take_any T b l p 1 W hc hp1 hl
    rw [take_one hx] at this
    exact this
  have HR : Hid (∀ W, Cur T b l (p + 1) W → Calls Tryz.prog 57 #[.pointer (some ⟨b, 0, none⟩), .func (.func 64) #[] #[]] W fun e w' => e = .returned (.string (str ds)) ∧ Moved T b l ((p + 1) + N) W w') := fun W hc => by
    have := row_any T _ _ tells_digit b l (p + 1) W hc (by omega) hl
    rw [hN, hds] at this
    exact this
  have hdl : ds.length ≤ 1048576 := by rw [← hds, List.length_take, List.length_drop]; omega
  have HO := hidden (oneForm_any true ds hne hdl)
  rw [ho] at HO
  have HI := hidden (atoi_any true ds (fun e => by rw [e] at hne; cases hne) hd hdl)
  rw [hf] at HI
  obtain ⟨A, hA⟩ : ∃ A, str (sgn true ++ ds) = A := ⟨_, rfl⟩
  rw [hA] at HI
  rw [hx] at HA
  have HH := hidden h
  have hb := h.lt
  have HE := hidden hE
  have HC : Hid (∀ o, Cur T b l p (w.alloc o)) := fun o => h.alloc o
  obtain ⟨SG, hSG⟩ : ∃ A, str (sgn true) = A := ⟨_, rfl⟩
  have z1 : SG.size = 1 := by rw [← hSG]; rfl
  rw [hSG] at HO HT
  have z3 : SG ++ str ds = A := by rw [← hSG, ← hA]; exact ByteArray.mk_append_mk [45] ds
  clear hA
  clear hSG
  have z2 := str_size ds
  have z4 : ¬ (9223372036854775807 < 1 + ds.length) := by omega
  clear h hE hN hds hd hne hx
  go_enter Tryz.func65, Tryz.ntmps65
  go_wp2_with (first
    | (go_at_call 83; (with_reducible refine (HI.out _ E3.out).mono ?_); rintro e w4 ⟨⟨t9, x9, y9, he⟩, hb4⟩; subst he; have BX : Hid (Box w.heap.size w4) := B3.out.below hb4; have M4 : Hid (w.grownBy w4 (some b)) := Lib.grownBy_below (Lib.grownBy_trans G2.out M3.out.grown) hb4; clear hb4; obtain ⟨x1, y1, z5, u1, c0, c1, c2, c3, f0, f1, f2, f3⟩ := BX.out.parts)
    | (go_at_call 82; (with_reducible refine (HO.out _).mono ?_); rintro e w' ⟨rfl, rfl⟩)
    | (go_at_call 57; (with_reducible refine (HR.out _ C2.out).mono ?_); rintro e w3 ⟨rfl, hm3⟩; have M3 := hidden hm3; have B3 : Hid (Box w.heap.size w3) := B2.out.grown hm3.grown (by omega); have E3 : Hid (Env w3) := HE.out.grown (Lib.grownBy_trans G2.out hm3.grown) hb1; clear hm3)
    | (go_at_call 81; (with_reducible refine (HT.out _ CD.out).mono ?_); rintro e w2 ⟨rfl, hm2⟩; have C2 := hidden hm2.cur; have G2 : Hid (w.grownBy w2 (some b)) := Lib.grownBy_trans GD.out hm2.grown; have B2 : Hid (Box w.heap.size w2) := BD.out.grown hm2.grown (by omega); clear hm2)
    | (go_at_call 59; (with_reducible refine (HA.out _ (HC.out _)).mono ?_); rintro e w1 ⟨rfl, hm1⟩; have CD := hidden hm1.cur; have GD : Hid (w.grownBy w1 (some b)) := Lib.grownBy_trans (grown_alloc w _ _) hm1.grown; have BD : Hid (Box w.heap.size w1) := (box_new w _ _ _ _).grown hm1.grown (by omega); clear hm1))
  exact bodyPost_ret (v := .tuple #[tokV noTok, .int .i64 41]) (by simp [results, Tryz.results65, go_sem, c0, c1, c2, c3, tokV, noTok, str]) rfl ⟨rfl, set4_grown M4.out (Nat.le_refl _), fun h => by cases h⟩

end Go.Proofs.YthgblljokonejaaGreatDoor

/- The reader's number, whole; the reader's token. -/
namespace Go.Proofs.YthgblljokonejaaGreatDoor
open Go.ChangeShapes Go.WideShapes Go.ChangeAt Go.RowKit

theorem digB_ne {x : Int} (h : digB x = true) : x ≠ 0 := by
  intro e; subst e; cases h
theorem number_any (T : TypeId) (b : Nat) (l : List UInt8) (p : Nat) (w : World) (h : Cur T b l p w) (hb1 : b ≠ 1) (hp : p ≤ l.length) (hl : l.length ≤ 1048576) (hE : Env w)
    (hst : digB (by8 (l.drop p) 0) = true ∨ (by8 (l.drop p) 0 = 45 ∧ digB (by8 (l.drop p) 1) = true)) :
    Calls Tryz.prog 65 #[.pointer (some ⟨b, 0, none⟩)] w (OneEnd T b l p (numberO (l.drop p)) w) := by
  by_cases hx : by8 (l.drop p) 0 = 45
  · have hd : digB (by8 (l.drop p) 1) = true := by
      rcases hst with h | h
      · rw [hx] at h; cases h
      · exact h.2
    have e1 : by8 (l.drop (p + 1)) 0 = by8 (l.drop p) 1 := by rw [← List.drop_drop, by8_drop]
    have hpos : 0 < rowN digB (l.drop (p + 1)) := row_pos (by rw [e1]; exact hd) (by rw [e1]; exact digB_ne hd)
    have hlen : 0 < ((l.drop (p + 1)).take (rowN digB (l.drop (p + 1)))).length := by
      rw [List.length_take]
      have := rowN_le digB (l.drop (p + 1))
      omega
    have en : numberO (l.drop p) = match numO true ((l.drop (p + 1)).take (rowN digB (l.drop (p + 1)))) with
        | none => ⟨noTok, 41, 0⟩
        | some v => ⟨⟨2, [], v, 0⟩, 0, 1 + rowN digB (l.drop (p + 1))⟩ := by
      unfold numberO
      simp only [hx, decide_true, if_true, List.drop_drop]
      generalize numO true _ = z
      cases z <;> rfl
    rw [en]
    unfold numO
    by_cases ho : oneB true ((l.drop (p + 1)).take (rowN digB (l.drop (p + 1)))) = true
    · by_cases hf : fits8 (signed true (decV 0 ((l.drop (p + 1)).take (rowN digB (l.drop (p + 1)))))) = true
      · rw [ho, hf]
        exact number_minus_fits T b l p _ _ w h hb1 hp hl hE hx rfl rfl hlen (allD_row _) ho hf
      · have hf' : fits8 (signed true (decV 0 ((l.drop (p + 1)).take (rowN digB (l.drop (p + 1)))))) = false := by simpa using hf
        rw [ho, hf']
        exact number_minus_range T b l p _ _ w h hb1 hp hl hE hx rfl rfl hlen (allD_row _) ho hf'
    · have ho' : oneB true ((l.drop (p + 1)).take (rowN digB (l.drop (p + 1)))) = false := by simpa using ho
      rw [ho']
      exact number_minus_form T b l p _ _ w h hb1 hp hl hE hx rfl rfl hlen ho'
  · have hd : digB (by8 (l.drop p) 0) = true := by
      rcases hst with h | h
      · exact h
      · exact absurd h.1 hx
    have hpos : 0 < rowN digB (l.drop p) := row_pos hd (digB_ne hd)
    have hlen : 0 < ((l.drop p).take (rowN digB (l.drop p))).length := by
      rw [List.length_take]
      have := rowN_le digB (l.drop p)
      omega
    have en : numberO (l.drop p) = match numO false ((l.drop p).take (rowN digB (l.drop p))) with
        | none => ⟨noTok, 41, 0⟩
        | some v => ⟨⟨2, [], v, 0⟩, 0, 0 + rowN digB (l.drop p)⟩ := by
      unfold numberO
      simp only [hx, decide_false, Bool.false_eq_true, if_false]
      generalize numO false _ = z
      cases z <;> rfl
    rw [en]
    unfold numO
    by_cases ho : oneB false ((l.drop p).take (rowN digB (l.drop p))) = true
    · by_cases hf : fits8 (signed false (decV 0 ((l.drop p).take (rowN digB (l.drop p))))) = true
      · rw [ho, hf]
        exact number_plain_fits T b l p _ _ w h hb1 hp hl hE hx rfl rfl hlen (allD_row _) ho hf
      · have hf' : fits8 (signed false (decV 0 ((l.drop p).take (rowN digB (l.drop p))))) = false := by simpa using hf
        rw [ho, hf']
        exact number_plain_range T b l p _ _ w h hb1 hp hl hE hx rfl rfl hlen (allD_row _) ho hf'
    · have ho' : oneB false ((l.drop p).take (rowN digB (l.drop p))) = false := by simpa using ho
      rw [ho']
      exact number_plain_form T b l p _ _ w h hb1 hp hl hE hx rfl rfl hlen ho'

/-- How a token's reading ends, said with the token's parts. -/
def OneEndP (T : TypeId) (b : Nat) (l : List UInt8) (p : Nat) (o : One) (w : World) (e : Ending) (w' : World) : Prop :=
  e = .returned (.tuple #[.agg #[.int .u8 o.tok.sort, .string (str o.tok.text), .int .i64 o.tok.num, .int .i64 o.tok.place], .int .i64 o.err]) ∧ w.grownBy w' (some b) ∧ (o.err = 0 → Cur T b l (p + o.n) w')

set_option maxRecDepth 100000 in
set_option maxHeartbeats 1000000 in
theorem token_letter (T : TypeId) (b : Nat) (l : List UInt8) (p : Nat) (w : World) (h : Cur T b l p w) (hb1 : b ≠ 1) (hp : p < l.length) (hl : l.length ≤ 1048576) (hE : Env w) (x0 x1 : Int) (hx0 : by8 (l.drop p) 0 = x0) (hx1 : by8 (l.drop p) 1 = x1) (hlet : letB x0 = true) :
    Calls Tryz.prog 34 #[.pointer (some ⟨b, 0, none⟩)] w (OneEnd T b l p (wordO (l.drop p)) w) := by
  have HN : Hid (∀ W, Cur T b l p W → Calls Tryz.prog 61 #[.pointer (some ⟨b, 0, none⟩)] W fun e w' => e = .returned (.bool false) ∧ Moved T b l p W w') := fun W hc => by
    have := ended_any T b l p W hc
    rw [decide_eq_false (by omega)] at this
    exact this.mono fun _ _ ⟨h1, m, h2⟩ => ⟨h1, by rw [h2]; exact Moved.drew hc m⟩
  have H0 : Hid (∀ W, Cur T b l p W → Calls Tryz.prog 59 #[.pointer (some ⟨b, 0, none⟩), .int .i64 0] W fun e w' => e = .returned (.int .u8 x0) ∧ ∃ m, w' = W.drewN m) := fun W hc => by
    have := ahead_any T b l p 0 W hc (by omega) hl (by decide)
    rw [hx0] at this
    exact this
  have H1 : Hid (∀ W, Cur T b l p W → Calls Tryz.prog 59 #[.pointer (some ⟨b, 0, none⟩), .int .i64 1] W fun e w' => e = .returned (.int .u8 x1) ∧ ∃ m, w' = W.drewN m) := fun W hc => by
    have := ahead_any T b l p 1 W hc (by omega) hl (by decide)
    rw [hx1] at this
    exact this
  have HL := hidden (isLetter_any x0)
  have HD0 := hidden (isDigit_any x0)
  have HD1 := hidden (isDigit_any x1)
  have HM := hidden (isMark_any x0)
  rw [hlet] at HL
  have HZ : Hid (∀ W, Cur T b l p W → Calls Tryz.prog 63 #[.pointer (some ⟨b, 0, none⟩)] W (OneEndP T b l p (wordO (l.drop p)) W)) := fun W hc => word_any T b l p W hc (by omega) hl
  generalize wordO (l.drop p) = o at *
  have hb := h.lt
  have HE := hidden hE
  have HC : Hid (∀ o, Cur T b l p (w.alloc o)) := fun o => h.alloc o
  clear h hE hx0 hx1
  go_enter Tryz.func34, Tryz.ntmps34
  go_wp2_with (go_at_call 61; (with_reducible refine (HN.out _ (HC.out _)).mono ?_); rintro e w1 ⟨rfl, hm1⟩; have C1 := hidden hm1.cur; have G1 : Hid (w.grownBy w1 (some b)) := Lib.grownBy_trans (grown_alloc w _ _) hm1.grown; have B1 : Hid (Box w.heap.size w1) := (box_new w _ _ _ _).grown hm1.grown (by omega); clear hm1)
  have C2 : ∀ n, Cur T b l p (w1.drewN n) := fun _ => C1.out
  go_quiet (first | (go_at_call 59; (with_reducible refine Calls.quiet_of (H0.out _ (C2 _)))) | (go_at_call 59; (with_reducible refine Calls.quiet_of (H1.out _ (C2 _)))))
  have C3 : Hid (Cur T b l p (w1.drewN nq)) := C1.out
  have G3 : Hid (w.grownBy (w1.drewN nq) (some b)) := Lib.grownBy_trans G1.out (grown_drewN _ _ _)
  have B3 : Hid (Box w.heap.size (w1.drewN nq)) := B1.out
  have E3 : Hid (Env (w1.drewN nq)) := HE.out.grown G3.out hb1
  clear C1 C2 G1 B1
  generalize w1.drewN nq = w2 at *
  go_wp2_with (first
    | (go_at_call 63; (with_reducible refine (HZ.out _ C3.out).mono ?_); rintro e w5 ⟨rfl, hg5, hc5⟩; have HG := hidden (Lib.grownBy_trans G3.out hg5); have HCC := hidden hc5; have BX : Hid (Box w.heap.size w5) := B3.out.grown hg5 (by omega); clear hg5 hc5; obtain ⟨y0, y1, y2, y3, c0, c1, c2, c3, f0, f1, f2, f3⟩ := BX.out.parts)
    | (go_at_call 66; (with_reducible refine (HM.out _).mono ?_); rintro e w' ⟨rfl, rfl⟩)
    | (go_at_call 64; (with_reducible refine (HD1.out _).mono ?_); rintro e w' ⟨rfl, rfl⟩)
    | (go_at_call 64; (with_reducible refine (HD0.out _).mono ?_); rintro e w' ⟨rfl, rfl⟩)
    | (go_at_call 62; (with_reducible refine (HL.out _).mono ?_); rintro e w' ⟨rfl, rfl⟩))
  exact bodyPost_ret (v := .tuple #[tokV o.tok, .int .i64 o.err]) (by simp [results, Tryz.results34, go_sem, c0, c1, c2, c3, tokV]) rfl ⟨rfl, set4_grown HG.out (Nat.le_refl _), fun h => set4_cur (HCC.out h) (by omega)⟩

set_option maxRecDepth 100000 in
set_option maxHeartbeats 1000000 in
theorem token_digit (T : TypeId) (b : Nat) (l : List UInt8) (p : Nat) (w : World) (h : Cur T b l p w) (hb1 : b ≠ 1) (hp : p < l.length) (hl : l.length ≤ 1048576) (hE : Env w) (x0 x1 : Int) (hx0 : by8 (l.drop p) 0 = x0) (hx1 : by8 (l.drop p) 1 = x1) (hlet : letB x0 = false) (hd0 : digB x0 = true) :
    Calls Tryz.prog 34 #[.pointer (some ⟨b, 0, none⟩)] w (OneEnd T b l p (numberO (l.drop p)) w) := by
  have HN : Hid (∀ W, Cur T b l p W → Calls Tryz.prog 61 #[.pointer (some ⟨b, 0, none⟩)] W fun e w' => e = .returned (.bool false) ∧ Moved T b l p W w') := fun W hc => by
    have := ended_any T b l p W hc
    rw [decide_eq_false (by omega)] at this
    exact this.mono fun _ _ ⟨h1, m, h2⟩ => ⟨h1, by rw [h2]; exact Moved.drew hc m⟩
  have H0 : Hid (∀ W, Cur T b l p W → Calls Tryz.prog 59 #[.pointer (some ⟨b, 0, none⟩), .int .i64 0] W fun e w' => e = .returned (.int .u8 x0) ∧ ∃ m, w' = W.drewN m) := fun W hc => by
    have := ahead_any T b l p 0 W hc (by omega) hl (by decide)
    rw [hx0] at this
    exact this
  have H1 : Hid (∀ W, Cur T b l p W → Calls Tryz.prog 59 #[.pointer (some ⟨b, 0, none⟩), .int .i64 1] W fun e w' => e = .returned (.int .u8 x1) ∧ ∃ m, w' = W.drewN m) := fun W hc => by
    have := ahead_any T b l p 1 W hc (by omega) hl (by decide)
    rw [hx1] at this
    exact this
  have HL := hidden (isLetter_any x0)
  have HD0 := hidden (isDigit_any x0)
  have HD1 := hidden (isDigit_any x1)
  have HM := hidden (isMark_any x0)
  rw [hlet] at HL
  rw [hd0] at HD0
  have HZ : Hid (∀ W, Cur T b l p W → Env W → Calls Tryz.prog 65 #[.pointer (some ⟨b, 0, none⟩)] W (OneEndP T b l p (numberO (l.drop p)) W)) := fun W hc he => number_any T b l p W hc hb1 (by omega) hl he (Or.inl (by rw [hx0]; exact hd0))
  generalize numberO (l.drop p) = o at *
  have hb := h.lt
  have HE := hidden hE
  have HC : Hid (∀ o, Cur T b l p (w.alloc o)) := fun o => h.alloc o
  clear h hE hx0 hx1
  go_enter Tryz.func34, Tryz.ntmps34
  go_wp2_with (go_at_call 61; (with_reducible refine (HN.out _ (HC.out _)).mono ?_); rintro e w1 ⟨rfl, hm1⟩; have C1 := hidden hm1.cur; have G1 : Hid (w.grownBy w1 (some b)) := Lib.grownBy_trans (grown_alloc w _ _) hm1.grown; have B1 : Hid (Box w.heap.size w1) := (box_new w _ _ _ _).grown hm1.grown (by omega); clear hm1)
  have C2 : ∀ n, Cur T b l p (w1.drewN n) := fun _ => C1.out
  go_quiet (first | (go_at_call 59; (with_reducible refine Calls.quiet_of (H0.out _ (C2 _)))) | (go_at_call 59; (with_reducible refine Calls.quiet_of (H1.out _ (C2 _)))))
  have C3 : Hid (Cur T b l p (w1.drewN nq)) := C1.out
  have G3 : Hid (w.grownBy (w1.drewN nq) (some b)) := Lib.grownBy_trans G1.out (grown_drewN _ _ _)
  have B3 : Hid (Box w.heap.size (w1.drewN nq)) := B1.out
  have E3 : Hid (Env (w1.drewN nq)) := HE.out.grown G3.out hb1
  clear C1 C2 G1 B1
  generalize w1.drewN nq = w2 at *
  go_wp2_with (first
    | (go_at_call 65; (with_reducible refine (HZ.out _ C3.out E3.out).mono ?_); rintro e w5 ⟨rfl, hg5, hc5⟩; have HG := hidden (Lib.grownBy_trans G3.out hg5); have HCC := hidden hc5; have BX : Hid (Box w.heap.size w5) := B3.out.grown hg5 (by omega); clear hg5 hc5; obtain ⟨y0, y1, y2, y3, c0, c1, c2, c3, f0, f1, f2, f3⟩ := BX.out.parts)
    | (go_at_call 66; (with_reducible refine (HM.out _).mono ?_); rintro e w' ⟨rfl, rfl⟩)
    | (go_at_call 64; (with_reducible refine (HD1.out _).mono ?_); rintro e w' ⟨rfl, rfl⟩)
    | (go_at_call 64; (with_reducible refine (HD0.out _).mono ?_); rintro e w' ⟨rfl, rfl⟩)
    | (go_at_call 62; (with_reducible refine (HL.out _).mono ?_); rintro e w' ⟨rfl, rfl⟩))
  exact bodyPost_ret (v := .tuple #[tokV o.tok, .int .i64 o.err]) (by simp [results, Tryz.results34, go_sem, c0, c1, c2, c3, tokV]) rfl ⟨rfl, set4_grown HG.out (Nat.le_refl _), fun h => set4_cur (HCC.out h) (by omega)⟩

set_option maxRecDepth 100000 in
set_option maxHeartbeats 1000000 in
theorem token_minus (T : TypeId) (b : Nat) (l : List UInt8) (p : Nat) (w : World) (h : Cur T b l p w) (hb1 : b ≠ 1) (hp : p < l.length) (hl : l.length ≤ 1048576) (hE : Env w) (x0 x1 : Int) (hx0 : by8 (l.drop p) 0 = x0) (hx1 : by8 (l.drop p) 1 = x1) (hlet : letB x0 = false) (hd0 : digB x0 = false) (h45 : x0 = 45) (hd1 : digB x1 = true) :
    Calls Tryz.prog 34 #[.pointer (some ⟨b, 0, none⟩)] w (OneEnd T b l p (numberO (l.drop p)) w) := by
  have HN : Hid (∀ W, Cur T b l p W → Calls Tryz.prog 61 #[.pointer (some ⟨b, 0, none⟩)] W fun e w' => e = .returned (.bool false) ∧ Moved T b l p W w') := fun W hc => by
    have := ended_any T b l p W hc
    rw [decide_eq_false (by omega)] at this
    exact this.mono fun _ _ ⟨h1, m, h2⟩ => ⟨h1, by rw [h2]; exact Moved.drew hc m⟩
  have H0 : Hid (∀ W, Cur T b l p W → Calls Tryz.prog 59 #[.pointer (some ⟨b, 0, none⟩), .int .i64 0] W fun e w' => e = .returned (.int .u8 x0) ∧ ∃ m, w' = W.drewN m) := fun W hc => by
    have := ahead_any T b l p 0 W hc (by omega) hl (by decide)
    rw [hx0] at this
    exact this
  have H1 : Hid (∀ W, Cur T b l p W → Calls Tryz.prog 59 #[.pointer (some ⟨b, 0, none⟩), .int .i64 1] W fun e w' => e = .returned (.int .u8 x1) ∧ ∃ m, w' = W.drewN m) := fun W hc => by
    have := ahead_any T b l p 1 W hc (by omega) hl (by decide)
    rw [hx1] at this
    exact this
  have HL := hidden (isLetter_any x0)
  have HD0 := hidden (isDigit_any x0)
  have HD1 := hidden (isDigit_any x1)
  have HM := hidden (isMark_any x0)
  rw [hlet] at HL
  rw [hd0] at HD0
  rw [hd1] at HD1
  have HZ : Hid (∀ W, Cur T b l p W → Env W → Calls Tryz.prog 65 #[.pointer (some ⟨b, 0, none⟩)] W (OneEndP T b l p (numberO (l.drop p)) W)) := fun W hc he => number_any T b l p W hc hb1 (by omega) hl he (Or.inr ⟨by rw [hx0]; exact h45, by rw [hx1]; exact hd1⟩)
  generalize numberO (l.drop p) = o at *
  have hb := h.lt
  have HE := hidden hE
  have HC : Hid (∀ o, Cur T b l p (w.alloc o)) := fun o => h.alloc o
  clear h hE hx0 hx1
  subst h45
  go_enter Tryz.func34, Tryz.ntmps34
  go_wp2_with (go_at_call 61; (with_reducible refine (HN.out _ (HC.out _)).mono ?_); rintro e w1 ⟨rfl, hm1⟩; have C1 := hidden hm1.cur; have G1 : Hid (w.grownBy w1 (some b)) := Lib.grownBy_trans (grown_alloc w _ _) hm1.grown; have B1 : Hid (Box w.heap.size w1) := (box_new w _ _ _ _).grown hm1.grown (by omega); clear hm1)
  have C2 : ∀ n, Cur T b l p (w1.drewN n) := fun _ => C1.out
  go_quiet (first | (go_at_call 59; (with_reducible refine Calls.quiet_of (H0.out _ (C2 _)))) | (go_at_call 59; (with_reducible refine Calls.quiet_of (H1.out _ (C2 _)))))
  have C3 : Hid (Cur T b l p (w1.drewN nq)) := C1.out
  have G3 : Hid (w.grownBy (w1.drewN nq) (some b)) := Lib.grownBy_trans G1.out (grown_drewN _ _ _)
  have B3 : Hid (Box w.heap.size (w1.drewN nq)) := B1.out
  have E3 : Hid (Env (w1.drewN nq)) := HE.out.grown G3.out hb1
  clear C1 C2 G1 B1
  generalize w1.drewN nq = w2 at *
  go_wp2_with (first
    | (go_at_call 65; (with_reducible refine (HZ.out _ C3.out E3.out).mono ?_); rintro e w5 ⟨rfl, hg5, hc5⟩; have HG := hidden (Lib.grownBy_trans G3.out hg5); have HCC := hidden hc5; have BX : Hid (Box w.heap.size w5) := B3.out.grown hg5 (by omega); clear hg5 hc5; obtain ⟨y0, y1, y2, y3, c0, c1, c2, c3, f0, f1, f2, f3⟩ := BX.out.parts)
    | (go_at_call 66; (with_reducible refine (HM.out _).mono ?_); rintro e w' ⟨rfl, rfl⟩)
    | (go_at_call 64; (with_reducible refine (HD1.out _).mono ?_); rintro e w' ⟨rfl, rfl⟩)
    | (go_at_call 64; (with_reducible refine (HD0.out _).mono ?_); rintro e w' ⟨rfl, rfl⟩)
    | (go_at_call 62; (with_reducible refine (HL.out _).mono ?_); rintro e w' ⟨rfl, rfl⟩))
  exact bodyPost_ret (v := .tuple #[tokV o.tok, .int .i64 o.err]) (by simp [results, Tryz.results34, go_sem, c0, c1, c2, c3, tokV]) rfl ⟨rfl, set4_grown HG.out (Nat.le_refl _), fun h => set4_cur (HCC.out h) (by omega)⟩

set_option maxRecDepth 100000 in
set_option maxHeartbeats 1000000 in
theorem token_mark (T : TypeId) (b : Nat) (l : List UInt8) (p : Nat) (w : World) (h : Cur T b l p w) (hb1 : b ≠ 1) (hp : p < l.length) (hl : l.length ≤ 1048576) (hE : Env w) (x0 x1 : Int) (hx0 : by8 (l.drop p) 0 = x0) (hx1 : by8 (l.drop p) 1 = x1) (hlet : letB x0 = false) (hd0 : digB x0 = false) (h45 : x0 ≠ 45) (hmk : markB x0 = true) :
    Calls Tryz.prog 34 #[.pointer (some ⟨b, 0, none⟩)] w (OneEnd T b l p (markO (l.drop p) 1) w) := by
  have HN : Hid (∀ W, Cur T b l p W → Calls Tryz.prog 61 #[.pointer (some ⟨b, 0, none⟩)] W fun e w' => e = .returned (.bool false) ∧ Moved T b l p W w') := fun W hc => by
    have := ended_any T b l p W hc
    rw [decide_eq_false (by omega)] at this
    exact this.mono fun _ _ ⟨h1, m, h2⟩ => ⟨h1, by rw [h2]; exact Moved.drew hc m⟩
  have H0 : Hid (∀ W, Cur T b l p W → Calls Tryz.prog 59 #[.pointer (some ⟨b, 0, none⟩), .int .i64 0] W fun e w' => e = .returned (.int .u8 x0) ∧ ∃ m, w' = W.drewN m) := fun W hc => by
    have := ahead_any T b l p 0 W hc (by omega) hl (by decide)
    rw [hx0] at this
    exact this
  have H1 : Hid (∀ W, Cur T b l p W → Calls Tryz.prog 59 #[.pointer (some ⟨b, 0, none⟩), .int .i64 1] W fun e w' => e = .returned (.int .u8 x1) ∧ ∃ m, w' = W.drewN m) := fun W hc => by
    have := ahead_any T b l p 1 W hc (by omega) hl (by decide)
    rw [hx1] at this
    exact this
  have HL := hidden (isLetter_any x0)
  have HD0 := hidden (isDigit_any x0)
  have HD1 := hidden (isDigit_any x1)
  have HM := hidden (isMark_any x0)
  rw [hlet] at HL
  rw [hd0] at HD0
  rw [hmk] at HM
  have h45' : decide (x0 = 45) = false := decide_eq_false h45
  have HZ : Hid (∀ W, Cur T b l p W → Calls Tryz.prog 67 #[.pointer (some ⟨b, 0, none⟩), .int .i64 1] W (OneEndP T b l p (markO (l.drop p) 1) W)) := fun W hc => mark_any T b l p 1 W hc (by omega) hl
  generalize markO (l.drop p) 1 = o at *
  have hb := h.lt
  have HE := hidden hE
  have HC : Hid (∀ o, Cur T b l p (w.alloc o)) := fun o => h.alloc o
  clear h hE hx0 hx1
  go_enter Tryz.func34, Tryz.ntmps34
  go_wp2_with (go_at_call 61; (with_reducible refine (HN.out _ (HC.out _)).mono ?_); rintro e w1 ⟨rfl, hm1⟩; have C1 := hidden hm1.cur; have G1 : Hid (w.grownBy w1 (some b)) := Lib.grownBy_trans (grown_alloc w _ _) hm1.grown; have B1 : Hid (Box w.heap.size w1) := (box_new w _ _ _ _).grown hm1.grown (by omega); clear hm1)
  have C2 : ∀ n, Cur T b l p (w1.drewN n) := fun _ => C1.out
  go_quiet (first | (go_at_call 59; (with_reducible refine Calls.quiet_of (H0.out _ (C2 _)))) | (go_at_call 59; (with_reducible refine Calls.quiet_of (H1.out _ (C2 _)))))
  have C3 : Hid (Cur T b l p (w1.drewN nq)) := C1.out
  have G3 : Hid (w.grownBy (w1.drewN nq) (some b)) := Lib.grownBy_trans G1.out (grown_drewN _ _ _)
  have B3 : Hid (Box w.heap.size (w1.drewN nq)) := B1.out
  have E3 : Hid (Env (w1.drewN nq)) := HE.out.grown G3.out hb1
  clear C1 C2 G1 B1
  generalize w1.drewN nq = w2 at *
  go_wp2_with (first
    | (go_at_call 67; (with_reducible refine (HZ.out _ C3.out).mono ?_); rintro e w5 ⟨rfl, hg5, hc5⟩; have HG := hidden (Lib.grownBy_trans G3.out hg5); have HCC := hidden hc5; have BX : Hid (Box w.heap.size w5) := B3.out.grown hg5 (by omega); clear hg5 hc5; obtain ⟨y0, y1, y2, y3, c0, c1, c2, c3, f0, f1, f2, f3⟩ := BX.out.parts)
    | (go_at_call 66; (with_reducible refine (HM.out _).mono ?_); rintro e w' ⟨rfl, rfl⟩)
    | (go_at_call 64; (with_reducible refine (HD1.out _).mono ?_); rintro e w' ⟨rfl, rfl⟩)
    | (go_at_call 64; (with_reducible refine (HD0.out _).mono ?_); rintro e w' ⟨rfl, rfl⟩)
    | (go_at_call 62; (with_reducible refine (HL.out _).mono ?_); rintro e w' ⟨rfl, rfl⟩))
  exact bodyPost_ret (v := .tuple #[tokV o.tok, .int .i64 o.err]) (by simp [results, Tryz.results34, go_sem, c0, c1, c2, c3, tokV]) rfl ⟨rfl, set4_grown HG.out (Nat.le_refl _), fun h => set4_cur (HCC.out h) (by omega)⟩

set_option maxRecDepth 100000 in
set_option maxHeartbeats 1000000 in
theorem token_arrow (T : TypeId) (b : Nat) (l : List UInt8) (p : Nat) (w : World) (h : Cur T b l p w) (hb1 : b ≠ 1) (_hp : p < l.length) (hl : l.length ≤ 1048576) (hE : Env w) (x0 x1 : Int) (hx0 : by8 (l.drop p) 0 = x0) (hx1 : by8 (l.drop p) 1 = x1) (hlet : letB x0 = false) (hd0 : digB x0 = false) (h45 : x0 = 45) (hd1 : digB x1 = false) (h62 : x1 = 62) (hp2 : p + 2 ≤ l.length) :
    Calls Tryz.prog 34 #[.pointer (some ⟨b, 0, none⟩)] w (OneEnd T b l p (markO (l.drop p) 2) w) := by
  have HN : Hid (∀ W, Cur T b l p W → Calls Tryz.prog 61 #[.pointer (some ⟨b, 0, none⟩)] W fun e w' => e = .returned (.bool false) ∧ Moved T b l p W w') := fun W hc => by
    have := ended_any T b l p W hc
    rw [decide_eq_false (by omega)] at this
    exact this.mono fun _ _ ⟨h1, m, h2⟩ => ⟨h1, by rw [h2]; exact Moved.drew hc m⟩
  have H0 : Hid (∀ W, Cur T b l p W → Calls Tryz.prog 59 #[.pointer (some ⟨b, 0, none⟩), .int .i64 0] W fun e w' => e = .returned (.int .u8 x0) ∧ ∃ m, w' = W.drewN m) := fun W hc => by
    have := ahead_any T b l p 0 W hc (by omega) hl (by decide)
    rw [hx0] at this
    exact this
  have H1 : Hid (∀ W, Cur T b l p W → Calls Tryz.prog 59 #[.pointer (some ⟨b, 0, none⟩), .int .i64 1] W fun e w' => e = .returned (.int .u8 x1) ∧ ∃ m, w' = W.drewN m) := fun W hc => by
    have := ahead_any T b l p 1 W hc (by omega) hl (by decide)
    rw [hx1] at this
    exact this
  have HL := hidden (isLetter_any x0)
  have HD0 := hidden (isDigit_any x0)
  have HD1 := hidden (isDigit_any x1)
  have HM := hidden (isMark_any x0)
  rw [hlet] at HL
  rw [hd0] at HD0
  rw [hd1] at HD1
  have hmk : markB x0 = false := by rw [h45]; rfl
  rw [hmk] at HM
  have HZ : Hid (∀ W, Cur T b l p W → Calls Tryz.prog 67 #[.pointer (some ⟨b, 0, none⟩), .int .i64 2] W (OneEndP T b l p (markO (l.drop p) 2) W)) := fun W hc => mark_any T b l p 2 W hc hp2 hl
  generalize markO (l.drop p) 2 = o at *
  have hb := h.lt
  have HE := hidden hE
  have HC : Hid (∀ o, Cur T b l p (w.alloc o)) := fun o => h.alloc o
  clear h hE hx0 hx1
  subst h45
  subst h62
  go_enter Tryz.func34, Tryz.ntmps34
  go_wp2_with (go_at_call 61; (with_reducible refine (HN.out _ (HC.out _)).mono ?_); rintro e w1 ⟨rfl, hm1⟩; have C1 := hidden hm1.cur; have G1 : Hid (w.grownBy w1 (some b)) := Lib.grownBy_trans (grown_alloc w _ _) hm1.grown; have B1 : Hid (Box w.heap.size w1) := (box_new w _ _ _ _).grown hm1.grown (by omega); clear hm1)
  have C2 : ∀ n, Cur T b l p (w1.drewN n) := fun _ => C1.out
  go_quiet (first | (go_at_call 59; (with_reducible refine Calls.quiet_of (H0.out _ (C2 _)))) | (go_at_call 59; (with_reducible refine Calls.quiet_of (H1.out _ (C2 _)))))
  have C3 : Hid (Cur T b l p (w1.drewN nq)) := C1.out
  have G3 : Hid (w.grownBy (w1.drewN nq) (some b)) := Lib.grownBy_trans G1.out (grown_drewN _ _ _)
  have B3 : Hid (Box w.heap.size (w1.drewN nq)) := B1.out
  have E3 : Hid (Env (w1.drewN nq)) := HE.out.grown G3.out hb1
  clear C1 C2 G1 B1
  generalize w1.drewN nq = w2 at *
  go_wp2_with (first
    | (go_at_call 67; (with_reducible refine (HZ.out _ C3.out).mono ?_); rintro e w5 ⟨rfl, hg5, hc5⟩; have HG := hidden (Lib.grownBy_trans G3.out hg5); have HCC := hidden hc5; have BX : Hid (Box w.heap.size w5) := B3.out.grown hg5 (by omega); clear hg5 hc5; obtain ⟨y0, y1, y2, y3, c0, c1, c2, c3, f0, f1, f2, f3⟩ := BX.out.parts)
    | (go_at_call 66; (with_reducible refine (HM.out _).mono ?_); rintro e w' ⟨rfl, rfl⟩)
    | (go_at_call 64; (with_reducible refine (HD1.out _).mono ?_); rintro e w' ⟨rfl, rfl⟩)
    | (go_at_call 64; (with_reducible refine (HD0.out _).mono ?_); rintro e w' ⟨rfl, rfl⟩)
    | (go_at_call 62; (with_reducible refine (HL.out _).mono ?_); rintro e w' ⟨rfl, rfl⟩))
  exact bodyPost_ret (v := .tuple #[tokV o.tok, .int .i64 o.err]) (by simp [results, Tryz.results34, go_sem, c0, c1, c2, c3, tokV]) rfl ⟨rfl, set4_grown HG.out (Nat.le_refl _), fun h => set4_cur (HCC.out h) (by omega)⟩

set_option maxRecDepth 100000 in
set_option maxHeartbeats 1000000 in
theorem token_wrongA (T : TypeId) (b : Nat) (l : List UInt8) (p : Nat) (w : World) (h : Cur T b l p w) (hb1 : b ≠ 1) (hp : p < l.length) (hl : l.length ≤ 1048576) (hE : Env w) (x0 x1 : Int) (hx0 : by8 (l.drop p) 0 = x0) (hx1 : by8 (l.drop p) 1 = x1) (hlet : letB x0 = false) (hd0 : digB x0 = false) (h45 : x0 ≠ 45) (hmk : markB x0 = false) :
    Calls Tryz.prog 34 #[.pointer (some ⟨b, 0, none⟩)] w (OneEnd T b l p ⟨noTok, 40, 0⟩ w) := by
  have HN : Hid (∀ W, Cur T b l p W → Calls Tryz.prog 61 #[.pointer (some ⟨b, 0, none⟩)] W fun e w' => e = .returned (.bool false) ∧ Moved T b l p W w') := fun W hc => by
    have := ended_any T b l p W hc
    rw [decide_eq_false (by omega)] at this
    exact this.mono fun _ _ ⟨h1, m, h2⟩ => ⟨h1, by rw [h2]; exact Moved.drew hc m⟩
  have H0 : Hid (∀ W, Cur T b l p W → Calls Tryz.prog 59 #[.pointer (some ⟨b, 0, none⟩), .int .i64 0] W fun e w' => e = .returned (.int .u8 x0) ∧ ∃ m, w' = W.drewN m) := fun W hc => by
    have := ahead_any T b l p 0 W hc (by omega) hl (by decide)
    rw [hx0] at this
    exact this
  have H1 : Hid (∀ W, Cur T b l p W → Calls Tryz.prog 59 #[.pointer (some ⟨b, 0, none⟩), .int .i64 1] W fun e w' => e = .returned (.int .u8 x1) ∧ ∃ m, w' = W.drewN m) := fun W hc => by
    have := ahead_any T b l p 1 W hc (by omega) hl (by decide)
    rw [hx1] at this
    exact this
  have HL := hidden (isLetter_any x0)
  have HD0 := hidden (isDigit_any x0)
  have HD1 := hidden (isDigit_any x1)
  have HM := hidden (isMark_any x0)
  rw [hlet] at HL
  rw [hd0] at HD0
  rw [hmk] at HM
  have h45' : decide (x0 = 45) = false := decide_eq_false h45
  have hb := h.lt
  have HE := hidden hE
  have HC : Hid (∀ o, Cur T b l p (w.alloc o)) := fun o => h.alloc o
  clear h hE hx0 hx1
  go_enter Tryz.func34, Tryz.ntmps34
  go_wp2_with (go_at_call 61; (with_reducible refine (HN.out _ (HC.out _)).mono ?_); rintro e w1 ⟨rfl, hm1⟩; have C1 := hidden hm1.cur; have G1 : Hid (w.grownBy w1 (some b)) := Lib.grownBy_trans (grown_alloc w _ _) hm1.grown; have B1 : Hid (Box w.heap.size w1) := (box_new w _ _ _ _).grown hm1.grown (by omega); clear hm1)
  have C2 : ∀ n, Cur T b l p (w1.drewN n) := fun _ => C1.out
  go_quiet (first | (go_at_call 59; (with_reducible refine Calls.quiet_of (H0.out _ (C2 _)))) | (go_at_call 59; (with_reducible refine Calls.quiet_of (H1.out _ (C2 _)))))
  have C3 : Hid (Cur T b l p (w1.drewN nq)) := C1.out
  have G3 : Hid (w.grownBy (w1.drewN nq) (some b)) := Lib.grownBy_trans G1.out (grown_drewN _ _ _)
  have B3 : Hid (Box w.heap.size (w1.drewN nq)) := B1.out
  have E3 : Hid (Env (w1.drewN nq)) := HE.out.grown G3.out hb1
  clear C1 C2 G1 B1
  generalize w1.drewN nq = w2 at *
  have BX := B3
  obtain ⟨y0, y1, y2, y3, c0, c1, c2, c3, f0, f1, f2, f3⟩ := BX.out.parts
  go_wp2_with (first
    | (go_at_call 66; (with_reducible refine (HM.out _).mono ?_); rintro e w' ⟨rfl, rfl⟩)
    | (go_at_call 64; (with_reducible refine (HD1.out _).mono ?_); rintro e w' ⟨rfl, rfl⟩)
    | (go_at_call 64; (with_reducible refine (HD0.out _).mono ?_); rintro e w' ⟨rfl, rfl⟩)
    | (go_at_call 62; (with_reducible refine (HL.out _).mono ?_); rintro e w' ⟨rfl, rfl⟩))
  exact bodyPost_ret (v := .tuple #[tokV noTok, .int .i64 40]) (by simp [results, Tryz.results34, go_sem, c0, c1, c2, c3, tokV, noTok, str]) rfl ⟨rfl, set4_grown G3.out (Nat.le_refl _), fun h => by cases h⟩

set_option maxRecDepth 100000 in
set_option maxHeartbeats 1000000 in
theorem token_wrongB (T : TypeId) (b : Nat) (l : List UInt8) (p : Nat) (w : World) (h : Cur T b l p w) (hb1 : b ≠ 1) (hp : p < l.length) (hl : l.length ≤ 1048576) (hE : Env w) (x0 x1 : Int) (hx0 : by8 (l.drop p) 0 = x0) (hx1 : by8 (l.drop p) 1 = x1) (hlet : letB x0 = false) (hd0 : digB x0 = false) (h45 : x0 = 45) (hd1 : digB x1 = false) (h62 : x1 ≠ 62) :
    Calls Tryz.prog 34 #[.pointer (some ⟨b, 0, none⟩)] w (OneEnd T b l p ⟨noTok, 40, 0⟩ w) := by
  have HN : Hid (∀ W, Cur T b l p W → Calls Tryz.prog 61 #[.pointer (some ⟨b, 0, none⟩)] W fun e w' => e = .returned (.bool false) ∧ Moved T b l p W w') := fun W hc => by
    have := ended_any T b l p W hc
    rw [decide_eq_false (by omega)] at this
    exact this.mono fun _ _ ⟨h1, m, h2⟩ => ⟨h1, by rw [h2]; exact Moved.drew hc m⟩
  have H0 : Hid (∀ W, Cur T b l p W → Calls Tryz.prog 59 #[.pointer (some ⟨b, 0, none⟩), .int .i64 0] W fun e w' => e = .returned (.int .u8 x0) ∧ ∃ m, w' = W.drewN m) := fun W hc => by
    have := ahead_any T b l p 0 W hc (by omega) hl (by decide)
    rw [hx0] at this
    exact this
  have H1 : Hid (∀ W, Cur T b l p W → Calls Tryz.prog 59 #[.pointer (some ⟨b, 0, none⟩), .int .i64 1] W fun e w' => e = .returned (.int .u8 x1) ∧ ∃ m, w' = W.drewN m) := fun W hc => by
    have := ahead_any T b l p 1 W hc (by omega) hl (by decide)
    rw [hx1] at this
    exact this
  have HL := hidden (isLetter_any x0)
  have HD0 := hidden (isDigit_any x0)
  have HD1 := hidden (isDigit_any x1)
  have HM := hidden (isMark_any x0)
  rw [hlet] at HL
  rw [hd0] at HD0
  rw [hd1] at HD1
  have hmk : markB x0 = false := by rw [h45]; rfl
  rw [hmk] at HM
  have h62' : decide (x1 = 62) = false := decide_eq_false h62
  have hb := h.lt
  have HE := hidden hE
  have HC : Hid (∀ o, Cur T b l p (w.alloc o)) := fun o => h.alloc o
  clear h hE hx0 hx1
  subst h45
  go_enter Tryz.func34, Tryz.ntmps34
  go_wp2_with (go_at_call 61; (with_reducible refine (HN.out _ (HC.out _)).mono ?_); rintro e w1 ⟨rfl, hm1⟩; have C1 := hidden hm1.cur; have G1 : Hid (w.grownBy w1 (some b)) := Lib.grownBy_trans (grown_alloc w _ _) hm1.grown; have B1 : Hid (Box w.heap.size w1) := (box_new w _ _ _ _).grown hm1.grown (by omega); clear hm1)
  have C2 : ∀ n, Cur T b l p (w1.drewN n) := fun _ => C1.out
  go_quiet (first | (go_at_call 59; (with_reducible refine Calls.quiet_of (H0.out _ (C2 _)))) | (go_at_call 59; (with_reducible refine Calls.quiet_of (H1.out _ (C2 _)))))
  have C3 : Hid (Cur T b l p (w1.drewN nq)) := C1.out
  have G3 : Hid (w.grownBy (w1.drewN nq) (some b)) := Lib.grownBy_trans G1.out (grown_drewN _ _ _)
  have B3 : Hid (Box w.heap.size (w1.drewN nq)) := B1.out
  have E3 : Hid (Env (w1.drewN nq)) := HE.out.grown G3.out hb1
  clear C1 C2 G1 B1
  generalize w1.drewN nq = w2 at *
  have BX := B3
  obtain ⟨y0, y1, y2, y3, c0, c1, c2, c3, f0, f1, f2, f3⟩ := BX.out.parts
  go_wp2_with (first
    | (go_at_call 66; (with_reducible refine (HM.out _).mono ?_); rintro e w' ⟨rfl, rfl⟩)
    | (go_at_call 64; (with_reducible refine (HD1.out _).mono ?_); rintro e w' ⟨rfl, rfl⟩)
    | (go_at_call 64; (with_reducible refine (HD0.out _).mono ?_); rintro e w' ⟨rfl, rfl⟩)
    | (go_at_call 62; (with_reducible refine (HL.out _).mono ?_); rintro e w' ⟨rfl, rfl⟩))
  exact bodyPost_ret (v := .tuple #[tokV noTok, .int .i64 40]) (by simp [results, Tryz.results34, go_sem, c0, c1, c2, c3, tokV, noTok, str]) rfl ⟨rfl, set4_grown G3.out (Nat.le_refl _), fun h => by cases h⟩

set_option maxRecDepth 100000 in
theorem token_end (T : TypeId) (b : Nat) (l : List UInt8) (w : World) (h : Cur T b l l.length w) :
    Calls Tryz.prog 34 #[.pointer (some ⟨b, 0, none⟩)] w (OneEnd T b l l.length ⟨noTok, 0, 0⟩ w) := by
  have HN : Hid (∀ W, Cur T b l l.length W → Calls Tryz.prog 61 #[.pointer (some ⟨b, 0, none⟩)] W fun e w' => e = .returned (.bool true) ∧ Moved T b l l.length W w') := fun W hc => by
    have := ended_any T b l l.length W hc
    rw [decide_eq_true rfl] at this
    exact this.mono fun _ _ ⟨h1, m, h2⟩ => ⟨h1, by rw [h2]; exact Moved.drew hc m⟩
  have hb := h.lt
  have HC : Hid (∀ o, Cur T b l l.length (w.alloc o)) := fun o => h.alloc o
  clear h
  go_enter Tryz.func34, Tryz.ntmps34
  go_wp2_with (go_at_call 61; (with_reducible refine (HN.out _ (HC.out _)).mono ?_); rintro e w1 ⟨rfl, hm1⟩; have C1 := hidden hm1.cur; have G1 : Hid (w.grownBy w1 (some b)) := Lib.grownBy_trans (grown_alloc w _ _) hm1.grown; obtain ⟨y0, y1, y2, y3, c0, c1, c2, c3, f0, f1, f2, f3⟩ := ((box_new w _ _ _ _).grown hm1.grown (by omega)).parts; clear hm1)
  exact bodyPost_ret (v := .tuple #[tokV noTok, .int .i64 0]) (by simp [results, Tryz.results34, go_sem, c0, c1, c2, c3, tokV, noTok, str]) rfl ⟨rfl, set4_grown G1.out (Nat.le_refl _), fun _ => set4_cur C1.out (by omega)⟩

/-- One token, whatever stands there. -/
theorem token_any (T : TypeId) (b : Nat) (l : List UInt8) (p : Nat) (w : World) (h : Cur T b l p w) (hb1 : b ≠ 1) (hp : p < l.length) (hl : l.length ≤ 1048576) (hE : Env w) :
    Calls Tryz.prog 34 #[.pointer (some ⟨b, 0, none⟩)] w (OneEnd T b l p (tokO (l.drop p)) w) := by
  by_cases h1 : letB (by8 (l.drop p) 0) = true
  · have e : tokO (l.drop p) = wordO (l.drop p) := by unfold tokO; rw [if_pos h1]
    rw [e]
    exact token_letter T b l p w h hb1 hp hl hE _ _ rfl rfl h1
  have h1' : letB (by8 (l.drop p) 0) = false := by simpa using h1
  by_cases h2 : digB (by8 (l.drop p) 0) = true
  · have e : tokO (l.drop p) = numberO (l.drop p) := by unfold tokO; rw [if_neg h1, if_pos (by rw [h2]; rfl)]
    rw [e]
    exact token_digit T b l p w h hb1 hp hl hE _ _ rfl rfl h1' h2
  have h2' : digB (by8 (l.drop p) 0) = false := by simpa using h2
  by_cases h3 : by8 (l.drop p) 0 = 45
  · by_cases h4 : digB (by8 (l.drop p) 1) = true
    · have e : tokO (l.drop p) = numberO (l.drop p) := by unfold tokO; rw [if_neg h1, if_pos (by rw [h2', h4, decide_eq_true h3]; rfl)]
      rw [e]
      exact token_minus T b l p w h hb1 hp hl hE _ _ rfl rfl h1' h2' h3 h4
    · have h4' : digB (by8 (l.drop p) 1) = false := by simpa using h4
      have hm : markB (by8 (l.drop p) 0) = false := by rw [h3]; rfl
      by_cases h5 : by8 (l.drop p) 1 = 62
      · have e : tokO (l.drop p) = markO (l.drop p) 2 := by unfold tokO; rw [if_neg h1, if_neg (by rw [h2', h4', Bool.and_false]; decide), if_neg (by rw [hm]; decide), if_pos (by rw [decide_eq_true h3, decide_eq_true h5]; rfl)]
        rw [e]
        refine token_arrow T b l p w h hb1 hp hl hE _ _ rfl rfl h1' h2' h3 h4' h5 ?_
        rcases Nat.lt_or_ge (p + 1) l.length with h | h
        · omega
        · rw [by8_end (by rw [List.length_drop]; omega)] at h5; cases h5
      · have e : tokO (l.drop p) = ⟨noTok, 40, 0⟩ := by unfold tokO; rw [if_neg h1, if_neg (by rw [h2', h4', Bool.and_false]; decide), if_neg (by rw [hm]; decide), if_neg (by rw [decide_eq_false h5, Bool.and_false]; decide)]
        rw [e]
        exact token_wrongB T b l p w h hb1 hp hl hE _ _ rfl rfl h1' h2' h3 h4' h5
  · by_cases h6 : markB (by8 (l.drop p) 0) = true
    · have e : tokO (l.drop p) = markO (l.drop p) 1 := by unfold tokO; rw [if_neg h1, if_neg (by rw [h2', decide_eq_false h3, Bool.false_and]; decide), if_pos h6]
      rw [e]
      exact token_mark T b l p w h hb1 hp hl hE _ _ rfl rfl h1' h2' h3 h6
    · have h6' : markB (by8 (l.drop p) 0) = false := by simpa using h6
      have e : tokO (l.drop p) = ⟨noTok, 40, 0⟩ := by unfold tokO; rw [if_neg h1, if_neg (by rw [h2', decide_eq_false h3, Bool.false_and]; decide), if_neg h6, if_neg (by rw [decide_eq_false h3, Bool.false_and]; decide)]
      rw [e]
      exact token_wrongA T b l p w h hb1 hp hl hE _ _ rfl rfl h1' h2' h3 h6'
end Go.Proofs.YthgblljokonejaaGreatDoor

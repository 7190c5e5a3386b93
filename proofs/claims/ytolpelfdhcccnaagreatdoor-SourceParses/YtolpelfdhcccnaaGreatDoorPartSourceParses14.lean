/- Texts of one chain, laid one behind the other. -/
import Derived.Test.YtolpelfdhcccnaaGreatDoorPartSourceParses13
import Derived.Deep.LoopGhost
namespace Go.Proofs.YtolpelfdhcccnaaGreatDoor
open Go.ChangeShapes Go.WideShapes Go.ChangeAt Go.RowKit
theorem Cur.set {T b l p w} (h : Cur T b l p w) (q : Nat) : Cur T b l q (w.setCell ⟨b, 1, none⟩ (.int .i64 (q : Int))) := by
  unfold Cur at h ⊢
  simp only [World.setCell, Array.getElem?_modify, ↓reduceIte, h, Option.map_some]
  rfl
/-- A cursor has gone on; nothing else has turned. -/
structure Moved (T : TypeId) (b : Nat) (l : List UInt8) (q : Nat) (w w' : World) : Prop where
  cur : Cur T b l q w'
  grown : w.grownBy w' (some b)
theorem Moved.trans {T b l q r w w1 w2} (h : Moved T b l q w w1) (k : Moved T b l r w1 w2) : Moved T b l r w w2 := ⟨k.cur, Lib.grownBy_trans h.grown k.grown⟩
theorem grown_drewN (w : World) (n : Nat) (row : Option Nat) : w.grownBy (w.drewN n) row := ⟨rfl, rfl, rfl, Nat.le_refl _, fun _ _ _ => rfl⟩
theorem Moved.drew {T b l q w} (h : Cur T b l q w) (n : Nat) : Moved T b l q w (w.drewN n) := ⟨h, grown_drewN w n _⟩
theorem Moved.refl {T b l q w} (h : Cur T b l q w) : Moved T b l q w w := ⟨h, rfl, rfl, rfl, Nat.le_refl _, fun _ _ _ => rfl⟩
theorem take_any (T : TypeId) (b : Nat) (l : List UInt8) (p n : Nat) (w : World) (h : Cur T b l p w) (hp : p + n ≤ l.length) (hl : l.length ≤ 1048576) :
    Calls Tryz.prog 161 #[.pointer (some ⟨b, 0, none⟩), .int .i64 (n : Int)] w fun e w' => e = .returned (.string (str ((l.drop p).take n))) ∧ Moved T b l (p + n) w w' := by
  have h0 := h.c0
  have h1 := h.c1
  have f1 := h.f1
  have H := hidden h
  clear h
  have e1 := str_size l
  have s3 : wrap64 ((p : Int) + (n : Int)) = ((p + n : Nat) : Int) := by unfold wrap64; omega
  have i0 : (0 : Int) ≤ (p : Int) := by omega
  have i1 : (p : Int) ≤ ((p + n : Nat) : Int) := by omega
  have i2 : ((p + n : Nat) : Int) ≤ (l.length : Int) := by omega
  have hc := str_cut l p n
  obtain ⟨q, hq⟩ : ∃ q : Nat, q = p + n := ⟨_, rfl⟩
  rw [← hq] at s3 i1 i2 hc ⊢
  have HQ := hidden hq
  clear hq hp
  have c0 : (w.setCell ⟨b, 1, none⟩ (.int .i64 (q : Int))).cell? ⟨b, 0, none⟩ = some (.string (str l)) := (H.out.set q).c0
  have c1 : (w.setCell ⟨b, 1, none⟩ (.int .i64 (q : Int))).cell? ⟨b, 1, none⟩ = some (.int .i64 (q : Int)) := (H.out.set q).c1
  go_enter Tryz.func161, Tryz.ntmps161
  go_wp2
  go_quiet (fail)
  go_wp2
  go_ret
  exact ⟨rfl, H.out.set q, Lib.grownBy_trans (Lib.grownBy_setCell w b 1 _) (grown_drewN _ _ _)⟩
/-- What belongs, told of a function of the program. -/
structure Tells (f : Nat) (p : Int → Bool) : Prop where
  tells : ∀ (c : Int) (w : World), Calls Tryz.prog f #[.int .u8 c] w fun e w' => e = .returned (.bool (p c)) ∧ w = w'
  enters : ∀ (c : Int) (w : World), (callFunc f #[.int .u8 c]).run Tryz.prog w = .ok (.enter f #[.int .u8 c]) w
set_option maxHeartbeats 1000000 in
theorem row_any (T : TypeId) (f : Nat) (P : Int → Bool) (hf : Tells f P) (b : Nat) (l : List UInt8) (p : Nat) (w : World) (h : Cur T b l p w) (hp : p ≤ l.length) (hl : l.length ≤ 1048576) :
    Calls Tryz.prog 127 #[.pointer (some ⟨b, 0, none⟩), .func (.func f) #[] #[]] w fun e w' => e = .returned (.string (str ((l.drop p).take (rowN P (l.drop p))))) ∧ Moved T b l (p + rowN P (l.drop p)) w w' := by
  have e1 := str_size l
  have HR := hidden (rowN_le P (l.drop p))
  have HF : Hid (Tells f P) := hf
  have HT : Hid (∀ n W, Cur T b l p W → p + n ≤ l.length → Calls Tryz.prog 161 #[.pointer (some ⟨b, 0, none⟩), .int .i64 (n : Int)] W fun e w' => e = .returned (.string (str ((l.drop p).take n))) ∧ Moved T b l (p + n) W w') := fun n W hc hn => take_any T b l p n W hc hn hl
  have hK := hf.enters
  have HK : ∀ q, Cur T b l p (w.drewN q) := fun _ => h
  clear hf
  obtain ⟨N, hN⟩ : ∃ N, rowN P (l.drop p) = N := ⟨_, rfl⟩
  have HI : Hid (∀ k, k < N → P (by8 l (p + k)) = true) := fun k hk => by rw [← by8_drop]; exact rowN_in P _ k (by rw [hN]; exact hk)
  have HO : Hid (p + N < l.length → P (by8 l (p + N)) = false) := fun hk => by
    have := rowN_out P (l.drop p) (by rw [hN, List.length_drop]; omega)
    rw [hN, by8_drop] at this; exact this
  have HNL : p + N ≤ l.length := by have := HR.out; rw [hN, List.length_drop] at this; omega
  rw [hN]
  clear hN HR
  go_enter Tryz.func127, Tryz.ntmps127
  go_wp2
  go_loopg [5] N (fun gk v wr => ∃ (k q : Nat), k ≤ N ∧ gk = N - k ∧ v = .int .i64 k ∧ wr = w.drewN q)
  case atStart => exact ⟨0, 0, Nat.zero_le _, rfl, rfl, rfl⟩
  case round =>
    obtain ⟨k, q, hk, rfl, rfl, rfl⟩ := hrel
    have h0 := h.c0
    have h1 := h.c1
    have s2 : IntKind.i64.wrap ((p : Int) + (k : Int)) = (p : Int) + (k : Int) := by rw [IntKind.wrap_i64]; omega
    have i0 : (0 : Int) ≤ (p : Int) + (k : Int) := by omega
    have i3 : ((p : Int) + (k : Int)).toNat = p + k := by omega
    by_cases hlt : p + k < l.length
    · have i1 : (p : Int) + (k : Int) < (l.length : Int) := by omega
      have g := str_get l (p + k) (by rw [e1]; exact hlt)
      have HC := hidden (HF.out.tells (by8 l (p + k)))
      by_cases hkn : k < N
      · have hP := HI.out k hkn
        rw [hP] at HC
        go_wp2
        go_quiet (refine (HC.out _).mono fun _ _ h => ⟨h.1, _, h.2.symm⟩)
        go_wp2
        go_roundg (N - (k + 1))
        case measure => omega
        case rel => exact ⟨k + 1, _, by omega, rfl, by go_num, rfl⟩
      · have e : k = N := by omega
        subst e
        have hP := HO.out hlt
        rw [hP] at HC
        go_wp2
        go_quiet (refine (HC.out _).mono fun _ _ h => ⟨h.1, _, h.2.symm⟩)
        go_wp2_with (go_at_call 161; (with_reducible refine (HT.out _ _ (HK _) HNL).mono ?_); rintro e w1 ⟨rfl, hm⟩)
        go_ret
        exact ⟨rfl, hm.cur, Lib.grownBy_trans (grown_drewN _ _ _) hm.grown⟩
    · have e : k = N := by omega
      subst e
      have i1 : decide ((p : Int) + (k : Int) < (l.length : Int)) = false := decide_eq_false (by omega)
      go_wp2
      go_quiet (fail)
      go_wp2_with (go_at_call 161; (with_reducible refine (HT.out _ _ (HK _) HNL).mono ?_); rintro e w1 ⟨rfl, hm⟩)
      go_ret
      exact ⟨rfl, hm.cur, Lib.grownBy_trans (grown_drewN _ _ _) hm.grown⟩
set_option maxRecDepth 100000 in
theorem tells_digit : Tells 134 digB := ⟨isDigit_any, fun _ _ => rfl⟩
set_option maxRecDepth 100000 in
theorem tells_word : Tells 155 wordB := ⟨inWord_any, fun _ _ => rfl⟩
set_option maxRecDepth 100000 in
theorem tells_blank : Tells 128 blankB := ⟨isBlank_any, fun _ _ => rfl⟩
set_option maxRecDepth 100000 in
theorem tells_remark : Tells 130 remB := ⟨inRemark_any, fun _ _ => rfl⟩
/-- A token as the model has it. -/
def tokV (t : Tok) : Value := .agg #[.int .u8 t.sort, .string (str t.text), .int .i64 t.num, .int .i64 t.place]
theorem Cur.lt {T b l p w} (h : Cur T b l p w) : b < w.heap.size := (Array.getElem?_eq_some_iff.1 h).1
theorem Cur.alloc {T b l p w} (h : Cur T b l p w) (o : Obj) : Cur T b l p (w.alloc o) := h.kept (Below.heap_alloc w o b h.lt)
theorem Cur.setOther {T b l p w} (h : Cur T b l p w) {n i : Nat} (hn : b ≠ n) (v : Value) : Cur T b l p (w.setCell ⟨n, i, none⟩ v) := h.kept (Below.heap_setCell w _ _ b hn)
theorem Cur.below {T b l p w w'} (h : Cur T b l p w) (hb : Below w.heap.size w w') : Cur T b l p w' := h.kept (hb.block b h.lt)
theorem grown_set {w w1 : World} {b n i : Nat} {v : Value} (h : w.grownBy w1 (some b)) (hn : w.heap.size ≤ n) : w.grownBy (w1.setCell ⟨n, i, none⟩ v) (some b) :=
  ⟨h.os, h.tape, h.output, by rw [World.size_setCell]; exact h.size, fun k hk hne => (Below.heap_setCell w1 _ _ k (fun e => by subst e; exact absurd hk (by simpa using hn))).trans (h.block k hk hne)⟩
theorem grown_alloc (w : World) (o : Obj) (row : Option Nat) : w.grownBy (w.alloc o) row := World.grownBy_alloc w o row
/-- A token's variable in a block of its own. -/
def Box (n : Nat) (w : World) : Prop := ∃ x y z u, w.heap[n]? = some (.cells #[x, y, z, u] 96 (0, 0))
theorem Box.parts {n w} (h : Box n w) : ∃ x y z u, w.cell? ⟨n, 0, none⟩ = some x ∧ w.cell? ⟨n, 1, none⟩ = some y ∧ w.cell? ⟨n, 2, none⟩ = some z ∧ w.cell? ⟨n, 3, none⟩ = some u ∧
    w.frozen? ⟨n, 0, none⟩ = false ∧ w.frozen? ⟨n, 1, none⟩ = false ∧ w.frozen? ⟨n, 2, none⟩ = false ∧ w.frozen? ⟨n, 3, none⟩ = false := by
  obtain ⟨x, y, z, u, h⟩ := h
  exact ⟨x, y, z, u, by simp [World.cell?, h], by simp [World.cell?, h], by simp [World.cell?, h], by simp [World.cell?, h], by simp [World.frozen?, h], by simp [World.frozen?, h], by simp [World.frozen?, h], by simp [World.frozen?, h]⟩
theorem Box.lt {n w} (h : Box n w) : n < w.heap.size := by obtain ⟨x, y, z, u, h⟩ := h; exact (Array.getElem?_eq_some_iff.1 h).1
theorem Box.grown {n w w' b} (h : Box n w) (hg : w.grownBy w' (some b)) (hn : n ≠ b) : Box n w' := by
  have hl := h.lt
  obtain ⟨x, y, z, u, h⟩ := h
  exact ⟨x, y, z, u, (hg.block n hl (fun e => hn (Option.some.inj e))).trans h⟩
theorem Box.below {n w w'} (h : Box n w) (hb : Below w.heap.size w w') : Box n w' := by
  have hl := h.lt
  obtain ⟨x, y, z, u, h⟩ := h
  exact ⟨x, y, z, u, (hb.block n hl).trans h⟩
theorem box_new (w : World) (x y z u : Value) : Box w.heap.size (w.alloc (.cells #[x, y, z, u] 96)) := ⟨x, y, z, u, by show (w.heap.push _)[w.heap.size]? = _; simp⟩
theorem set4_grown {w w1 : World} {b n : Nat} {x y z u : Value} (h : w.grownBy w1 (some b)) (hn : w.heap.size ≤ n) : w.grownBy ((((w1.setCell ⟨n, 0, none⟩ x).setCell ⟨n, 1, none⟩ y).setCell ⟨n, 2, none⟩ z).setCell ⟨n, 3, none⟩ u) (some b) :=
  grown_set (grown_set (grown_set (grown_set h hn) hn) hn) hn
theorem set4_cur {T b l p w1 n} {x y z u : Value} (h : Cur T b l p w1) (hn : b ≠ n) : Cur T b l p ((((w1.setCell ⟨n, 0, none⟩ x).setCell ⟨n, 1, none⟩ y).setCell ⟨n, 2, none⟩ z).setCell ⟨n, 3, none⟩ u) :=
  (((h.setOther hn _).setOther hn _).setOther hn _).setOther hn _
/-- How a reading of one token ends. -/
def OneEnd (T : TypeId) (b : Nat) (l : List UInt8) (p : Nat) (o : One) (w : World) (e : Ending) (w' : World) : Prop :=
  e = .returned (.tuple #[tokV o.tok, .int .i64 o.err]) ∧ w.grownBy w' (some b) ∧ (o.err = 0 → Cur T b l (p + o.n) w')
theorem blank_behind (l : List UInt8) (p : Nat) : blankB (by8 (l.drop (p + rowN blankB (l.drop p))) 0) = false := by
  rw [← List.drop_drop]
  by_cases h : rowN blankB (l.drop p) < (l.drop p).length
  · have := rowN_out blankB (l.drop p) h
    rw [by8_drop]
    exact this
  · rw [by8_end (by rw [List.length_drop]; omega)]; rfl
theorem hash_moves {l : List UInt8} (h : by8 l 0 = 35) : 0 < rowN remB l := by
  cases l with
  | nil => simp [by8] at h
  | cons c r =>
    rw [by8_zero] at h
    simp [rowN, remB, h]
set_option maxHeartbeats 1000000 in
theorem skip_any (T : TypeId) (b : Nat) (l : List UInt8) (p : Nat) (w : World) (h : Cur T b l p w) (hp : p ≤ l.length) (hl : l.length ≤ 1048576) :
    Calls Tryz.prog 81 #[.pointer (some ⟨b, 0, none⟩)] w fun e w' => e = .returned (.tuple #[]) ∧ Moved T b l (p + skipN false (l.drop p)) w w' := by
  have HB : Hid (∀ q W, Cur T b l q W → q ≤ l.length → Calls Tryz.prog 127 #[.pointer (some ⟨b, 0, none⟩), .func (.func 128) #[] #[]] W fun e w' => e = .returned (.string (str ((l.drop q).take (rowN blankB (l.drop q))))) ∧ Moved T b l (q + rowN blankB (l.drop q)) W w') :=
    fun q W hc hq => row_any T _ _ tells_blank b l q W hc hq hl
  have HM : Hid (∀ q W, Cur T b l q W → q ≤ l.length → Calls Tryz.prog 127 #[.pointer (some ⟨b, 0, none⟩), .func (.func 130) #[] #[]] W fun e w' => e = .returned (.string (str ((l.drop q).take (rowN remB (l.drop q))))) ∧ Moved T b l (q + rowN remB (l.drop q)) W w') :=
    fun q W hc hq => row_any T _ _ tells_remark b l q W hc hq hl
  have HA : Hid (∀ q W, Cur T b l q W → q ≤ l.length → Calls Tryz.prog 129 #[.pointer (some ⟨b, 0, none⟩), .int .i64 0] W fun e w' => e = .returned (.int .u8 (by8 (l.drop q) 0)) ∧ ∃ m, w' = W.drewN m) :=
    fun q W hc hq => ahead_any T b l q 0 W hc hq hl (by decide)
  have R1 := hidden (fun q => rowN_le blankB (l.drop q))
  have R2 := hidden (fun q => rowN_le remB (l.drop q))
  have HH := hidden h
  clear h
  go_enter Tryz.func81, Tryz.ntmps81
  go_wp2_with (go_at_call 127; (with_reducible refine (HB.out _ _ HH.out hp).mono ?_); rintro e w1 ⟨rfl, hm1⟩; have M1 := hidden hm1; clear hm1)
  have HS : Hid (∀ q, q ≤ l.length → by8 (l.drop q) 0 = 35 → q < l.length ∧ 0 < rowN remB (l.drop q) ∧ q + rowN remB (l.drop q) + rowN blankB (l.drop (q + rowN remB (l.drop q))) ≤ l.length ∧
      (q + rowN remB (l.drop q) + rowN blankB (l.drop (q + rowN remB (l.drop q)))) + skipN false (l.drop (q + rowN remB (l.drop q) + rowN blankB (l.drop (q + rowN remB (l.drop q))))) = q + skipN false (l.drop q)) := fun q hq h35 => by
    have r1 := rowN_le remB (l.drop q)
    have r2 := rowN_le blankB (l.drop (q + rowN remB (l.drop q)))
    rw [List.length_drop] at r1 r2
    refine ⟨?_, hash_moves h35, by omega, ?_⟩
    · rcases Nat.lt_or_ge q l.length with h | h
      · exact h
      · rw [by8_end (by rw [List.length_drop]; omega)] at h35; cases h35
    · have e1 := skip_hash h35
      have e2 := skip_blank (l.drop (q + rowN remB (l.drop q)))
      rw [List.drop_drop] at e1 e2
      omega
  have hfin : Hid (p + rowN blankB (l.drop p) + skipN false (l.drop (p + rowN blankB (l.drop p))) = p + skipN false (l.drop p)) := by
    have e2 := skip_blank (l.drop p)
    rw [List.drop_drop] at e2
    show _ = _
    omega
  have hle : p + rowN blankB (l.drop p) ≤ l.length := by have := R1.out p; rw [List.length_drop] at this; omega
  go_loopg [] (l.length - (p + rowN blankB (l.drop p))) (fun gk wr => ∃ q, q ≤ l.length ∧ gk = l.length - q ∧ q + skipN false (l.drop q) = p + skipN false (l.drop p) ∧ blankB (by8 (l.drop q) 0) = false ∧ Moved T b l q w wr)
  case atStart => exact ⟨p + rowN blankB (l.drop p), hle, rfl, hfin.out, blank_behind l p, M1.out⟩
  case round =>
    clear M1 hfin hle
    obtain ⟨q, hq, rfl, hsum, hbl, hmv⟩ := hrel
    have HV := hidden hmv
    have HQ := hidden hsum
    have HBL := hidden hbl
    clear hmv hsum hbl
    have A1 := hidden (fun W hc => HA.out q W hc hq)
    have HC := hidden HV.out.cur
    by_cases h35 : by8 (l.drop q) 0 = 35
    · obtain ⟨hlt, hpos, hle2, hs2⟩ := HS.out q hq h35
      have HQ2 := hidden (hs2.trans HQ.out)
      have HB2 := hidden (blank_behind l (q + rowN remB (l.drop q)))
      have hle1 : q + rowN remB (l.drop q) ≤ l.length := by omega
      rw [h35] at A1
      clear hs2 HQ HBL HS HA
      obtain ⟨q1, hq1⟩ : ∃ q1, q + rowN remB (l.drop q) = q1 := ⟨_, rfl⟩
      have H1 := hidden (fun W hc => HM.out q W hc hq)
      rw [hq1] at H1 HQ2 HB2 hle1 hle2
      obtain ⟨q2, hq2⟩ : ∃ q2, q1 + rowN blankB (l.drop q1) = q2 := ⟨_, rfl⟩
      have H2 := hidden (fun W hc => HB.out q1 W hc hle1)
      rw [hq2] at H2 HQ2 HB2 hle2
      have hdec : q < q2 := by omega
      clear hq1 hq2 HM HB hpos
      generalize str (List.take (rowN remB (l.drop q)) (l.drop q)) = s1 at *
      generalize str (List.take (rowN blankB (l.drop q1)) (l.drop q1)) = s2 at *
      go_wp2_with (first
        | (go_at_call 127; (with_reducible refine (H2.out _ M2.out.cur).mono ?_); rintro e w3 ⟨rfl, hm3⟩; have M3 := hidden hm3; clear hm3)
        | (go_at_call 127; (with_reducible refine (H1.out _ CD.out).mono ?_); rintro e w2 ⟨rfl, hm2⟩; have M2 := hidden hm2; clear hm2)
        | (go_at_call 129; (with_reducible refine (A1.out _ HC.out).mono ?_); rintro e w' ⟨rfl, m1, rfl⟩; have CD : Hid (Cur T b l q (wr.drewN m1)) := HC.out))
      go_roundg (l.length - q2)
      case measure => omega
      case rel => exact ⟨q2, hle2, rfl, HQ2.out, HB2.out, HV.out.trans ((Moved.drew HC.out m1).trans (M2.out.trans M3.out))⟩
    · have hd : decide (by8 (l.drop q) 0 = 35) = false := decide_eq_false h35
      have HZ : Hid (p + skipN false (l.drop p) = q) := by
        have e0 := skip_none HBL.out h35
        have e1 := HQ.out
        show _ = _
        omega
      generalize by8 (l.drop q) 0 = x at *
      go_wp2_with (go_at_call 129; (with_reducible refine (A1.out _ HC.out).mono ?_); rintro e w' ⟨rfl, m1, rfl⟩)
      go_end0
      refine ⟨rfl, ?_⟩
      rw [HZ.out]
      exact HV.out.trans (Moved.drew HC.out m1)
set_option maxHeartbeats 1000000 in
theorem word_any_k (T : TypeId) (b : Nat) (l : List UInt8) (p : Nat) (w : World) (h : Cur T b l p w) (hp : p ≤ l.length) (hl : l.length ≤ 1048576) :
    Calls Tryz.prog 133 #[.pointer (some ⟨b, 0, none⟩)] w (OneEnd T b l p (wordO (l.drop p)) w) := by
  have HB : Hid (∀ W, Cur T b l p W → Calls Tryz.prog 127 #[.pointer (some ⟨b, 0, none⟩), .func (.func 155) #[] #[]] W fun e w' => e = .returned (.string (str ((l.drop p).take (rowN wordB (l.drop p))))) ∧ Moved T b l (p + rowN wordB (l.drop p)) W w') :=
    fun W hc => row_any T _ _ tells_word b l p W hc hp hl
  have hle := rowN_le wordB (l.drop p)
  rw [List.length_drop] at hle
  have ES : Hid (∀ k, k ≤ l.length - p → (str ((l.drop p).take k)).size = k) := fun k hk => by rw [str_size, List.length_take, List.length_drop]; omega
  have HH := hidden h
  have hb := h.lt
  clear h
  by_cases hn : 16 < rowN wordB (l.drop p)
  · have eo : wordO (l.drop p) = ⟨noTok, 42, 0⟩ := by unfold wordO; rw [if_pos hn]
    rw [eo]
    clear eo
    generalize rowN wordB (l.drop p) = N at *
    have es := ES.out N hle
    generalize str ((l.drop p).take N) = S at *
    have hN : (16 : Int) < (N : Int) := by omega
    have HA : Hid (∀ o, Cur T b l p (w.alloc o)) := fun o => HH.out.alloc o
    go_enter Tryz.func133, Tryz.ntmps133
    go_wp2_with (go_at_call 127; (with_reducible refine (HB.out _ (HA.out _)).mono ?_); rintro e w1 ⟨rfl, hm1⟩; have M1 := hidden hm1; obtain ⟨x, y, z, u, c0, c1, c2, c3, f0, f1, f2, f3⟩ := ((box_new w _ _ _ _).grown hm1.grown (by omega)).parts; clear hm1)
    exact bodyPost_ret (v := .tuple #[tokV noTok, .int .i64 42]) (by simp [results, Tryz.results133, go_sem, c0, c1, c2, c3, tokV, noTok, str]) rfl ⟨rfl, set4_grown (Lib.grownBy_trans (grown_alloc w _ _) M1.out.grown) (Nat.le_refl _), fun h => by cases h⟩
  · have eo : wordO (l.drop p) = ⟨⟨1, (l.drop p).take (rowN wordB (l.drop p)), 0, 0⟩, 0, rowN wordB (l.drop p)⟩ := by unfold wordO; rw [if_neg hn]
    rw [eo]
    clear eo
    generalize rowN wordB (l.drop p) = N at *
    have es := ES.out N hle
    generalize (l.drop p).take N = S at *
    have hN : decide ((16 : Int) < (N : Int)) = false := decide_eq_false (by omega)
    have HA : Hid (∀ o, Cur T b l p (w.alloc o)) := fun o => HH.out.alloc o
    go_enter Tryz.func133, Tryz.ntmps133
    go_wp2_with (go_at_call 127; (with_reducible refine (HB.out _ (HA.out _)).mono ?_); rintro e w1 ⟨rfl, hm1⟩; have M1 := hidden hm1; obtain ⟨x, y, z, u, c0, c1, c2, c3, f0, f1, f2, f3⟩ := ((box_new w _ _ _ _).grown hm1.grown (by omega)).parts; clear hm1)
    exact bodyPost_ret (v := .tuple #[tokV ⟨1, S, 0, 0⟩, .int .i64 0]) (by simp [results, Tryz.results133, go_sem, c0, c1, c2, c3, tokV]) rfl ⟨rfl, set4_grown (Lib.grownBy_trans (grown_alloc w _ _) M1.out.grown) (Nat.le_refl _), fun _ => set4_cur M1.out.cur (by omega)⟩
set_option maxHeartbeats 1000000 in
theorem mark_any (T : TypeId) (b : Nat) (l : List UInt8) (p n : Nat) (w : World) (h : Cur T b l p w) (hp : p + n ≤ l.length) (hl : l.length ≤ 1048576) :
    Calls Tryz.prog 137 #[.pointer (some ⟨b, 0, none⟩), .int .i64 (n : Int)] w (OneEnd T b l p (markO (l.drop p) n) w) := by
  have HT : Hid (∀ W, Cur T b l p W → Calls Tryz.prog 161 #[.pointer (some ⟨b, 0, none⟩), .int .i64 (n : Int)] W fun e w' => e = .returned (.string (str ((l.drop p).take n))) ∧ Moved T b l (p + n) W w') := fun W hc => take_any T b l p n W hc hp hl
  have hb := h.lt
  have HA : Hid (∀ o, Cur T b l p (w.alloc o)) := fun o => h.alloc o
  clear h
  unfold markO
  generalize (l.drop p).take n = S at *
  go_enter Tryz.func137, Tryz.ntmps137
  go_wp2_with (go_at_call 161; (with_reducible refine (HT.out _ (HA.out _)).mono ?_); rintro e w1 ⟨rfl, hm1⟩; have M1 := hidden hm1; obtain ⟨x, y, z, u, c0, c1, c2, c3, f0, f1, f2, f3⟩ := ((box_new w _ _ _ _).grown hm1.grown (by omega)).parts; clear hm1)
  exact bodyPost_ret (v := .tuple #[tokV ⟨3, S, 0, 0⟩, .int .i64 0]) (by simp [results, Tryz.results137, go_sem, c0, c1, c2, c3, tokV]) rfl ⟨rfl, set4_grown (Lib.grownBy_trans (grown_alloc w _ _) M1.out.grown) (Nat.le_refl _), fun _ => set4_cur M1.out.cur (by omega)⟩
end Go.Proofs.YtolpelfdhcccnaaGreatDoor

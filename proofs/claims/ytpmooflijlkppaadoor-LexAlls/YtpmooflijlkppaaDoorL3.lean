/- The reader's skip, word and mark. -/
import Derived.Test.YtpmooflijlkppaaDoorL2
namespace Go.Proofs.YtpmooflijlkppaaDoor
open Go.ChangeShapes Go.WideShapes Go.ChangeAt Go.RowKit

/-- A token as the model has it. -/
def tokV (t : Tok) : Value := .agg #[.int .u8 t.sort, .string (str t.text), .int .i64 t.num, .int .i64 t.place]
theorem Cur.lt {T b l p w} (h : Cur T b l p w) : b < w.heap.size := (Array.getElem?_eq_some_iff.1 h).1
theorem Cur.alloc {T b l p w} (h : Cur T b l p w) (o : Obj) : Cur T b l p (w.alloc o) := h.kept (Below.heap_alloc w o b h.lt)
theorem Cur.setOther {T b l p w} (h : Cur T b l p w) {n i : Nat} (hn : b ≠ n) (v : Value) : Cur T b l p (w.setCell ⟨n, i, none⟩ v) := h.kept (Below.heap_setCell w _ _ b hn)
theorem Cur.below {T b l p w w'} (h : Cur T b l p w) (hb : Below w.heap.size w w') : Cur T b l p w' := h.kept (hb.block b h.lt)
theorem grown_set {w w1 : World} {b n i : Nat} {v : Value} (h : w.grownBy w1 (some b)) (hn : w.heap.size ≤ n) : w.grownBy (w1.setCell ⟨n, i, none⟩ v) (some b) :=
  ⟨h.os, h.tape, h.output, by rw [World.size_setCell]; exact h.size, fun k hk hne => (Below.heap_setCell w1 _ _ k (fun e => by subst e; exact absurd hk (by simpa using hn))).trans (h.block k hk hne)⟩
theorem grown_alloc (w : World) (o : Obj) (row : Option Nat) : w.grownBy (w.alloc o) row := World.grownBy_alloc w o row
/-- A token's variable in a block of its own. -/
def Box (n : Nat) (w : World) : Prop := ∃ x y z u, w.heap[n]? = some (.cells #[x, y, z, u] 54 (0, 0))
theorem Box.parts {n w} (h : Box n w) : ∃ x y z u, w.cell? ⟨n, 0, none⟩ = some x ∧ w.cell? ⟨n, 1, none⟩ = some y ∧ w.cell? ⟨n, 2, none⟩ = some z ∧ w.cell? ⟨n, 3, none⟩ = some u ∧
    w.frozen? ⟨n, 0, none⟩ = false ∧ w.frozen? ⟨n, 1, none⟩ = false ∧ w.frozen? ⟨n, 2, none⟩ = false ∧ w.frozen? ⟨n, 3, none⟩ = false := by
  obtain ⟨x, y, z, u, h⟩ := h
  exact ⟨x, y, z, u, by simp [World.cell?, h], by simp [World.cell?, h], by simp [World.cell?, h], by simp [World.cell?, h], by simp [World.frozen?, h], by simp [World.frozen?, h], by simp [World.frozen?, h], by simp [World.frozen?, h]⟩
theorem Box.lt {n w} (h : Box n w) : n < w.heap.size := by obtain ⟨x, y, z, u, h⟩ := h; exact (Array.getElem?_eq_some_iff.1 h).1
theorem Box.grown {n w w' b} (h : Box n w) (hg : w.grownBy w' (some b)) (hn : n ≠ b) : Box n w' := by
  have hl := h.lt
  obtain ⟨x, y, z, u, h⟩ := h
  exact ⟨x, y, z, u, (hg.block n hl (fun e => hn (Option.some.inj e))).trans h⟩
theorem Box.below {n w w'} (h : Box n w) (hb : Below w.heap.size w w') : Box n w' := by
  have hl := h.lt
  obtain ⟨x, y, z, u, h⟩ := h
  exact ⟨x, y, z, u, (hb.block n hl).trans h⟩
theorem box_new (w : World) (x y z u : Value) : Box w.heap.size (w.alloc (.cells #[x, y, z, u] 54)) := ⟨x, y, z, u, by show (w.heap.push _)[w.heap.size]? = _; simp⟩

theorem set4_grown {w w1 : World} {b n : Nat} {x y z u : Value} (h : w.grownBy w1 (some b)) (hn : w.heap.size ≤ n) : w.grownBy ((((w1.setCell ⟨n, 0, none⟩ x).setCell ⟨n, 1, none⟩ y).setCell ⟨n, 2, none⟩ z).setCell ⟨n, 3, none⟩ u) (some b) :=
  grown_set (grown_set (grown_set (grown_set h hn) hn) hn) hn
theorem set4_cur {T b l p w1 n} {x y z u : Value} (h : Cur T b l p w1) (hn : b ≠ n) : Cur T b l p ((((w1.setCell ⟨n, 0, none⟩ x).setCell ⟨n, 1, none⟩ y).setCell ⟨n, 2, none⟩ z).setCell ⟨n, 3, none⟩ u) :=
  (((h.setOther hn _).setOther hn _).setOther hn _).setOther hn _
/-- How a reading of one token ends. -/
def OneEnd (T : TypeId) (b : Nat) (l : List UInt8) (p : Nat) (o : One) (w : World) (e : Ending) (w' : World) : Prop :=
  e = .returned (.tuple #[tokV o.tok, .int .i64 o.err]) ∧ w.grownBy w' (some b) ∧ (o.err = 0 → Cur T b l (p + o.n) w')
theorem blank_behind (l : List UInt8) (p : Nat) : blankB (by8 (l.drop (p + rowN blankB (l.drop p))) 0) = false := by
  rw [← List.drop_drop]
  by_cases h : rowN blankB (l.drop p) < (l.drop p).length
  · have := rowN_out blankB (l.drop p) h
    rw [by8_drop]
    exact this
  · rw [by8_end (by rw [List.length_drop]; omega)]; rfl
theorem hash_moves {l : List UInt8} (h : by8 l 0 = 35) : 0 < rowN remB l := by
  cases l with
  | nil => simp [by8] at h
  | cons c r =>
    rw [by8_zero] at h
    simp [rowN, remB, h]

set_option maxHeartbeats 1000000 in
theorem skip_any (T : TypeId) (b : Nat) (l : List UInt8) (p : Nat) (w : World) (h : Cur T b l p w) (hp : p ≤ l.length) (hl : l.length ≤ 1048576) :
    Calls Tryd.prog 19 #[.pointer (some ⟨b, 0, none⟩)] w fun e w' => e = .returned (.tuple #[]) ∧ Moved T b l (p + skipN false (l.drop p)) w w' := by
  have HB : Hid (∀ q W, Cur T b l q W → q ≤ l.length → Calls Tryd.prog 31 #[.pointer (some ⟨b, 0, none⟩), .func (.func 32) #[] #[]] W fun e w' => e = .returned (.string (str ((l.drop q).take (rowN blankB (l.drop q))))) ∧ Moved T b l (q + rowN blankB (l.drop q)) W w') :=
    fun q W hc hq => row_any T _ _ tells_blank b l q W hc hq hl
  have HM : Hid (∀ q W, Cur T b l q W → q ≤ l.length → Calls Tryd.prog 31 #[.pointer (some ⟨b, 0, none⟩), .func (.func 34) #[] #[]] W fun e w' => e = .returned (.string (str ((l.drop q).take (rowN remB (l.drop q))))) ∧ Moved T b l (q + rowN remB (l.drop q)) W w') :=
    fun q W hc hq => row_any T _ _ tells_remark b l q W hc hq hl
  have HA : Hid (∀ q W, Cur T b l q W → q ≤ l.length → Calls Tryd.prog 33 #[.pointer (some ⟨b, 0, none⟩), .int .i64 0] W fun e w' => e = .returned (.int .u8 (by8 (l.drop q) 0)) ∧ ∃ m, w' = W.drewN m) :=
    fun q W hc hq => ahead_any T b l q 0 W hc hq hl (by decide)
  have R1 := hidden (fun q => rowN_le blankB (l.drop q))
  have R2 := hidden (fun q => rowN_le remB (l.drop q))
  have HH := hidden h
  clear h
  go_enter Tryd.func19, Tryd.ntmps19
  go_wp2_with (go_at_call 31; (with_reducible refine (HB.out _ _ HH.out hp).mono ?_); rintro e w1 ⟨rfl, hm1⟩; have M1 := hidden hm1; clear hm1)
  have HS : Hid (∀ q, q ≤ l.length → by8 (l.drop q) 0 = 35 → q < l.length ∧ 0 < rowN remB (l.drop q) ∧ q + rowN remB (l.drop q) + rowN blankB (l.drop (q + rowN remB (l.drop q))) ≤ l.length ∧
      (q + rowN remB (l.drop q) + rowN blankB (l.drop (q + rowN remB (l.drop q)))) + skipN false (l.drop (q + rowN remB (l.drop q) + rowN blankB (l.drop (q + rowN remB (l.drop q))))) = q + skipN false (l.drop q)) := fun q hq h35 => by
    have r1 := rowN_le remB (l.drop q)
    have r2 := rowN_le blankB (l.drop (q + rowN remB (l.drop q)))
    rw [List.length_drop] at r1 r2
    refine ⟨?_, hash_moves h35, by omega, ?_⟩
    · rcases Nat.lt_or_ge q l.length with h | h
      · exact h
      · rw [by8_end (by rw [List.length_drop]; omega)] at h35; cases h35
    · have e1 := skip_hash h35
      have e2 := skip_blank (l.drop (q + rowN remB (l.drop q)))
      rw [List.drop_drop] at e1 e2
      omega
  have hfin : Hid (p + rowN blankB (l.drop p) + skipN false (l.drop (p + rowN blankB (l.drop p))) = p + skipN false (l.drop p)) := by
    have e2 := skip_blank (l.drop p)
    rw [List.drop_drop] at e2
    show _ = _
    omega
  have hle : p + rowN blankB (l.drop p) ≤ l.length := by have := R1.out p; rw [List.length_drop] at this; omega
  go_loopg [] (l.length - (p + rowN blankB (l.drop p))) (fun gk wr => ∃ q, q ≤ l.length ∧ gk = l.length - q ∧ q + skipN false (l.drop q) = p + skipN false (l.drop p) ∧ blankB (by8 (l.drop q) 0) = false ∧ Moved T b l q w wr)
  case atStart => exact ⟨p + rowN blankB (l.drop p), hle, rfl, hfin.out, blank_behind l p, M1.out⟩
  case round =>
    clear M1 hfin hle
    obtain ⟨q, hq, rfl, hsum, hbl, hmv⟩ := hrel
    have HV := hidden hmv
    have HQ := hidden hsum
    have HBL := hidden hbl
    clear hmv hsum hbl
    have A1 := hidden (fun W hc => HA.out q W hc hq)
    have HC := hidden HV.out.cur
    by_cases h35 : by8 (l.drop q) 0 = 35
    · obtain ⟨hlt, hpos, hle2, hs2⟩ := HS.out q hq h35
      have HQ2 := hidden (hs2.trans HQ.out)
      have HB2 := hidden (blank_behind l (q + rowN remB (l.drop q)))
      have hle1 : q + rowN remB (l.drop q) ≤ l.length := by omega
      rw [h35] at A1
      clear hs2 HQ HBL HS HA
      obtain ⟨q1, hq1⟩ : ∃ q1, q + rowN remB (l.drop q) = q1 := ⟨_, rfl⟩
      have H1 := hidden (fun W hc => HM.out q W hc hq)
      rw [hq1] at H1 HQ2 HB2 hle1 hle2
      obtain ⟨q2, hq2⟩ : ∃ q2, q1 + rowN blankB (l.drop q1) = q2 := ⟨_, rfl⟩
      have H2 := hidden (fun W hc => HB.out q1 W hc hle1)
      rw [hq2] at H2 HQ2 HB2 hle2
      have hdec : q < q2 := by omega
      clear hq1 hq2 HM HB hpos
      generalize str (List.take (rowN remB (l.drop q)) (l.drop q)) = s1 at *
      generalize str (List.take (rowN blankB (l.drop q1)) (l.drop q1)) = s2 at *
      go_wp2_with (first
        | (go_at_call 31; (with_reducible refine (H2.out _ M2.out.cur).mono ?_); rintro e w3 ⟨rfl, hm3⟩; have M3 := hidden hm3; clear hm3)
        | (go_at_call 31; (with_reducible refine (H1.out _ CD.out).mono ?_); rintro e w2 ⟨rfl, hm2⟩; have M2 := hidden hm2; clear hm2)
        | (go_at_call 33; (with_reducible refine (A1.out _ HC.out).mono ?_); rintro e w' ⟨rfl, m1, rfl⟩; have CD : Hid (Cur T b l q (wr.drewN m1)) := HC.out))
      go_roundg (l.length - q2)
      case measure => omega
      case rel => exact ⟨q2, hle2, rfl, HQ2.out, HB2.out, HV.out.trans ((Moved.drew HC.out m1).trans (M2.out.trans M3.out))⟩
    · have hd : decide (by8 (l.drop q) 0 = 35) = false := decide_eq_false h35
      have HZ : Hid (p + skipN false (l.drop p) = q) := by
        have e0 := skip_none HBL.out h35
        have e1 := HQ.out
        show _ = _
        omega
      generalize by8 (l.drop q) 0 = x at *
      go_wp2_with (go_at_call 33; (with_reducible refine (A1.out _ HC.out).mono ?_); rintro e w' ⟨rfl, m1, rfl⟩)
      go_end0
      refine ⟨rfl, ?_⟩
      rw [HZ.out]
      exact HV.out.trans (Moved.drew HC.out m1)
set_option maxHeartbeats 1000000 in
theorem word_any (T : TypeId) (b : Nat) (l : List UInt8) (p : Nat) (w : World) (h : Cur T b l p w) (hp : p ≤ l.length) (hl : l.length ≤ 1048576) :
    Calls Tryd.prog 37 #[.pointer (some ⟨b, 0, none⟩)] w (OneEnd T b l p (wordO (l.drop p)) w) := by
  have HB : Hid (∀ W, Cur T b l p W → Calls Tryd.prog 31 #[.pointer (some ⟨b, 0, none⟩), .func (.func 46) #[] #[]] W fun e w' => e = .returned (.string (str ((l.drop p).take (rowN wordB (l.drop p))))) ∧ Moved T b l (p + rowN wordB (l.drop p)) W w') :=
    fun W hc => row_any T _ _ tells_word b l p W hc hp hl
  have hle := rowN_le wordB (l.drop p)
  rw [List.length_drop] at hle
  have ES : Hid (∀ k, k ≤ l.length - p → (str ((l.drop p).take k)).size = k) := fun k hk => by rw [str_size, List.length_take, List.length_drop]; omega
  have HH := hidden h
  have hb := h.lt
  clear h
  by_cases hn : 16 < rowN wordB (l.drop p)
  · have eo : wordO (l.drop p) = ⟨noTok, 42, 0⟩ := by unfold wordO; rw [if_pos hn]
    rw [eo]
    clear eo
    generalize rowN wordB (l.drop p) = N at *
    have es := ES.out N hle
    generalize str ((l.drop p).take N) = S at *
    have hN : (16 : Int) < (N : Int) := by omega
    have HA : Hid (∀ o, Cur T b l p (w.alloc o)) := fun o => HH.out.alloc o
    go_enter Tryd.func37, Tryd.ntmps37
    go_wp2_with (go_at_call 31; (with_reducible refine (HB.out _ (HA.out _)).mono ?_); rintro e w1 ⟨rfl, hm1⟩; have M1 := hidden hm1; obtain ⟨x, y, z, u, c0, c1, c2, c3, f0, f1, f2, f3⟩ := ((box_new w _ _ _ _).grown hm1.grown (by omega)).parts; clear hm1)
    exact bodyPost_ret (v := .tuple #[tokV noTok, .int .i64 42]) (by simp [results, Tryd.results37, go_sem, c0, c1, c2, c3, tokV, noTok, str]) rfl ⟨rfl, set4_grown (Lib.grownBy_trans (grown_alloc w _ _) M1.out.grown) (Nat.le_refl _), fun h => by cases h⟩
  · have eo : wordO (l.drop p) = ⟨⟨1, (l.drop p).take (rowN wordB (l.drop p)), 0, 0⟩, 0, rowN wordB (l.drop p)⟩ := by unfold wordO; rw [if_neg hn]
    rw [eo]
    clear eo
    generalize rowN wordB (l.drop p) = N at *
    have es := ES.out N hle
    generalize (l.drop p).take N = S at *
    have hN : decide ((16 : Int) < (N : Int)) = false := decide_eq_false (by omega)
    have HA : Hid (∀ o, Cur T b l p (w.alloc o)) := fun o => HH.out.alloc o
    go_enter Tryd.func37, Tryd.ntmps37
    go_wp2_with (go_at_call 31; (with_reducible refine (HB.out _ (HA.out _)).mono ?_); rintro e w1 ⟨rfl, hm1⟩; have M1 := hidden hm1; obtain ⟨x, y, z, u, c0, c1, c2, c3, f0, f1, f2, f3⟩ := ((box_new w _ _ _ _).grown hm1.grown (by omega)).parts; clear hm1)
    exact bodyPost_ret (v := .tuple #[tokV ⟨1, S, 0, 0⟩, .int .i64 0]) (by simp [results, Tryd.results37, go_sem, c0, c1, c2, c3, tokV]) rfl ⟨rfl, set4_grown (Lib.grownBy_trans (grown_alloc w _ _) M1.out.grown) (Nat.le_refl _), fun _ => set4_cur M1.out.cur (by omega)⟩

set_option maxHeartbeats 1000000 in
theorem mark_any (T : TypeId) (b : Nat) (l : List UInt8) (p n : Nat) (w : World) (h : Cur T b l p w) (hp : p + n ≤ l.length) (hl : l.length ≤ 1048576) :
    Calls Tryd.prog 41 #[.pointer (some ⟨b, 0, none⟩), .int .i64 (n : Int)] w (OneEnd T b l p (markO (l.drop p) n) w) := by
  have HT : Hid (∀ W, Cur T b l p W → Calls Tryd.prog 59 #[.pointer (some ⟨b, 0, none⟩), .int .i64 (n : Int)] W fun e w' => e = .returned (.string (str ((l.drop p).take n))) ∧ Moved T b l (p + n) W w') := fun W hc => take_any T b l p n W hc hp hl
  have hb := h.lt
  have HA : Hid (∀ o, Cur T b l p (w.alloc o)) := fun o => h.alloc o
  clear h
  unfold markO
  generalize (l.drop p).take n = S at *
  go_enter Tryd.func41, Tryd.ntmps41
  go_wp2_with (go_at_call 59; (with_reducible refine (HT.out _ (HA.out _)).mono ?_); rintro e w1 ⟨rfl, hm1⟩; have M1 := hidden hm1; obtain ⟨x, y, z, u, c0, c1, c2, c3, f0, f1, f2, f3⟩ := ((box_new w _ _ _ _).grown hm1.grown (by omega)).parts; clear hm1)
  exact bodyPost_ret (v := .tuple #[tokV ⟨3, S, 0, 0⟩, .int .i64 0]) (by simp [results, Tryd.results41, go_sem, c0, c1, c2, c3, tokV]) rfl ⟨rfl, set4_grown (Lib.grownBy_trans (grown_alloc w _ _) M1.out.grown) (Nat.le_refl _), fun _ => set4_cur M1.out.cur (by omega)⟩
end Go.Proofs.YtpmooflijlkppaaDoor

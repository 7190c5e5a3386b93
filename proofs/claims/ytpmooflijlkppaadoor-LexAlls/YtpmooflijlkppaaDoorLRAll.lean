/- The document's token and All, whatever the text. (Written by tmpl/merge.py of LRT to LRX.) -/
import Derived.Test.YtpmooflijlkppaaDoorLR1
import Derived.Test.YtpmooflijlkppaaDoorL4
import Derived.Test.YtpmooflijlkppaaDoorLAll
import Derived.Test.YtpmooflijlkppaaDoorLRNum
namespace Go.Proofs.YtpmooflijlkppaaDoor
open Go.ChangeShapes Go.WideShapes Go.ChangeAt Go.RowKit

/-- How the document's token ends. -/
def RTok (p : Nat) (o : One) (w : World) (e : Ending) (w' : World) : Prop :=
  e = .returned (.tuple #[.agg #[.int .u8 o.tok.sort, .string (str o.tok.text), .int .i64 o.tok.num, .int .i64 (if o.err = 0 then (p : Int) else 0)], .int .i64 (if o.err = 0 then ((p + o.n : Nat) : Int) else 0), .int .i64 o.err]) ∧ Below w.heap.size w w'
theorem below_set4 {w w1 : World} {x y z u : Value} (h : Below w.heap.size w w1) : Below w.heap.size w ((((w1.setCell ⟨w.heap.size, 0, none⟩ x).setCell ⟨w.heap.size, 1, none⟩ y).setCell ⟨w.heap.size, 2, none⟩ z).setCell ⟨w.heap.size, 3, none⟩ u) :=
  (((h.setCell (p := ⟨w.heap.size, 0, none⟩) (Nat.le_refl _) x).setCell (p := ⟨w.heap.size, 1, none⟩) (Nat.le_refl _) y).setCell (p := ⟨w.heap.size, 2, none⟩) (Nat.le_refl _) z).setCell (p := ⟨w.heap.size, 3, none⟩) (Nat.le_refl _) u
theorem by8_from (l : List UInt8) (p i : Nat) : by8 (l.drop p) i = by8 l (p + i) := by
  unfold by8
  rw [List.getD_eq_getElem?_getD, List.getD_eq_getElem?_getD, List.getElem?_drop]
theorem row_goes {f : Int → Bool} {l : List UInt8} {p q N : Nat} (hN : rowN f (l.drop p) = N) (hpq : p ≤ q) (h : q ≤ p + N) (hq : q < l.length) (hw : f (by8 l q) = true) : q + 1 ≤ p + N := by
  have := row_next (p := f) (l := l.drop p) (i := q - p) (by omega) (by rw [List.length_drop]; omega) (by rw [by8_from]; rw [show p + (q - p) = q by omega]; exact hw)
  omega
theorem row_ends {f : Int → Bool} {l : List UInt8} {p q N : Nat} (hN : rowN f (l.drop p) = N) (hpq : p ≤ q) (h : q ≤ p + N) (hw : f (by8 l q) = false) : q = p + N := by
  rcases Nat.lt_or_ge q (p + N) with h1 | h1
  · have := rowN_in f (l.drop p) (q - p) (by omega)
    rw [by8_from, show p + (q - p) = q by omega, hw] at this
    cases this
  · omega

set_option maxRecDepth 100000 in
set_option maxHeartbeats 2000000 in
theorem rtoken_wordA (l : List UInt8) (p N : Nat) (w : World) (hp : p < l.length) (hl : l.length ≤ 1048576) (x0 : Int) (hx0 : by8 l p = x0) (hlet : letB x0 = true) (hN : rowN wordB (l.drop p) = N) (hN1 : 0 < N) (hn : p + 1 < l.length) : Calls Tryd.prog 21 #[.string (str l), .int .i64 (p : Int)] w (RTok p (wordO (l.drop p)) w) := by
  have e1 := str_size l
  have g0 := str_get l p (by rw [e1]; exact hp)
  rw [hx0] at g0
  have hpI : (p : Int) < (l.length : Int) := by omega
  have hlI : (l.length : Int) ≤ 1048576 := by omega
  have HL := hidden (rletter_any x0)
  rw [hlet] at HL
  have HNL : Hid (p + N ≤ l.length) := by have := rowN_le wordB (l.drop p); rw [hN, List.length_drop] at this; show _ ≤ _; omega
  have HGO := hidden (fun q => row_goes (f := wordB) (l := l) (p := p) (q := q) hN)
  have HEN := hidden (fun q => row_ends (f := wordB) (l := l) (p := p) (q := q) hN)
  have HCUT := hidden (str_cut l p N)
  have EO : Hid (wordO (l.drop p) = if 16 < N then ⟨noTok, 42, 0⟩ else ⟨⟨1, (l.drop p).take N, 0, 0⟩, 0, N⟩) := by unfold wordO; rw [hN]; rfl
  have HBX := hidden (box_new w (.int .u8 0) (.string ⟨#[]⟩) (.int .i64 0) (.int .i64 0))
  have HB0 : Hid (Below w.heap.size w (w.alloc (.cells #[.int .u8 0, .string ⟨#[]⟩, .int .i64 0, .int .i64 0] 54))) := (Below.refl _ _).alloc (Nat.le_refl _) _
  have n1 : (p : Int) + 1 < (l.length : Int) := by omega
  have g1 := str_get l (p + 1) (by rw [e1]; exact hn)
  clear hN hx0 hlet
  go_enter Tryd.func21, Tryd.ntmps21
  go_wp2_with (go_at_call 42; (with_reducible refine (HL.out _).mono ?_); rintro e w' ⟨rfl, rfl⟩)
  go_loopg [9] (l.length - (p + 1)) (fun gk v wr => ∃ q : Nat, p < q ∧ q ≤ l.length ∧ gk = l.length - q ∧ v = .int .i64 (q : Int) ∧ Below w.heap.size w wr ∧ Box w.heap.size wr ∧ q ≤ p + N)
  case atStart => exact ⟨p + 1, Nat.lt_succ_self _, hp, rfl, by go_num, HB0.out, HBX.out, by omega⟩
  case round =>
    obtain ⟨q, hpq, hql, rfl, rfl, hb, hbx, hqN⟩ := hrel
    have HB := hidden hb
    clear hb HB0 HBX HL
    by_cases hgo : q < l.length ∧ wordB (by8 l q) = true
    · obtain ⟨hlt, hw⟩ := hgo
      have j1 : (q : Int) < (l.length : Int) := by omega
      have gi := str_get l q (by rw [e1]; exact hlt)
      have HI := hidden (rinside_any (by8 l q))
      have HN : Hid (q + 1 ≤ p + N) := HGO.out q (by omega) hqN hlt hw
      have HX := hidden hbx
      rw [hw] at HI
      clear hw hbx
      go_wp2_with (go_at_call 43; (with_reducible refine (HI.out _).mono ?_); rintro e w' ⟨rfl, rfl⟩)
      go_roundg (l.length - (q + 1))
      case measure => omega
      case rel => exact ⟨q + 1, by omega, by omega, rfl, by go_num, HB.out, HX.out, HN.out⟩
    · have hqe : q = p + N := by
        by_cases hlt : q < l.length
        · exact HEN.out q (by omega) hqN (by cases h : wordB (by8 l q) with | true => exact absurd ⟨hlt, h⟩ hgo | false => rfl)
        · have := HNL.out; omega
      have hcut := HCUT.out
      rw [← hqe] at hcut
      obtain ⟨x1, y1, z5, u1, c0, c1, c2, c3, f0, f1, f2, f3⟩ := hbx.parts
      have HQ := hidden hqe
      have EO' := EO.out
      clear EO
      have i0 : (0 : Int) ≤ (p : Int) := by omega
      have i1 : (p : Int) ≤ (q : Int) := by omega
      have i2 : (q : Int) ≤ (l.length : Int) := by omega
      have wq : IntKind.i64.wrap ((q : Int) - (p : Int)) = (q : Int) - (p : Int) := by rw [IntKind.wrap_i64]; omega
      clear hqe
      by_cases h16 : 16 < N
      · have m16 : (16 : Int) < (q : Int) - (p : Int) := by have := HQ.out; omega
        rw [if_pos h16] at EO'
        have HE := hidden EO'
        clear EO'
        by_cases hlt : q < l.length
        · have j1 : (q : Int) < (l.length : Int) := by omega
          have gi := str_get l q (by rw [e1]; exact hlt)
          have HI := hidden (rinside_any (by8 l q))
          have hw' : wordB (by8 l q) = false := by cases h : wordB (by8 l q) with | true => exact absurd ⟨hlt, h⟩ hgo | false => rfl
          rw [hw'] at HI
          clear hw' hgo
          go_wp2_with (go_at_call 43; (with_reducible refine (HI.out _).mono ?_); rintro e w' ⟨rfl, rfl⟩)
          exact bodyPost_ret (v := .tuple #[.agg #[.int .u8 0, .string (str []), .int .i64 0, .int .i64 0], .int .i64 0, .int .i64 42]) (by simp [results, Tryd.results21, go_sem, c0, c1, c2, c3, str]) rfl ⟨by rw [HE.out]; rfl, below_set4 HB.out⟩
        · have j1 : ¬ ((q : Int) < (l.length : Int)) := by omega
          clear hgo
          go_wp2
          exact bodyPost_ret (v := .tuple #[.agg #[.int .u8 0, .string (str []), .int .i64 0, .int .i64 0], .int .i64 0, .int .i64 42]) (by simp [results, Tryd.results21, go_sem, c0, c1, c2, c3, str]) rfl ⟨by rw [HE.out]; rfl, below_set4 HB.out⟩
      · have m16 : ¬ ((16 : Int) < (q : Int) - (p : Int)) := by have := HQ.out; omega
        rw [if_neg h16] at EO'
        have HE := hidden EO'
        clear EO'
        by_cases hlt : q < l.length
        · have j1 : (q : Int) < (l.length : Int) := by omega
          have gi := str_get l q (by rw [e1]; exact hlt)
          have HI := hidden (rinside_any (by8 l q))
          have hw' : wordB (by8 l q) = false := by cases h : wordB (by8 l q) with | true => exact absurd ⟨hlt, h⟩ hgo | false => rfl
          rw [hw'] at HI
          clear hw' hgo
          go_wp2_with (go_at_call 43; (with_reducible refine (HI.out _).mono ?_); rintro e w' ⟨rfl, rfl⟩)
          all_goals exact bodyPost_ret (v := .tuple #[.agg #[.int .u8 1, .string (str ((l.drop p).take N)), .int .i64 0, .int .i64 (p : Int)], .int .i64 (q : Int), .int .i64 0]) (by simp [results, Tryd.results21, go_sem, c0, c1, c2, c3, str]) rfl ⟨by rw [HE.out, HQ.out]; rfl, below_set4 HB.out⟩
        · have j1 : ¬ ((q : Int) < (l.length : Int)) := by omega
          clear hgo
          go_wp2
          all_goals exact bodyPost_ret (v := .tuple #[.agg #[.int .u8 1, .string (str ((l.drop p).take N)), .int .i64 0, .int .i64 (p : Int)], .int .i64 (q : Int), .int .i64 0]) (by simp [results, Tryd.results21, go_sem, c0, c1, c2, c3, str]) rfl ⟨by rw [HE.out, HQ.out]; rfl, below_set4 HB.out⟩

set_option maxRecDepth 100000 in
set_option maxHeartbeats 2000000 in
theorem rtoken_wordB (l : List UInt8) (p N : Nat) (w : World) (hp : p < l.length) (hl : l.length ≤ 1048576) (x0 : Int) (hx0 : by8 l p = x0) (hlet : letB x0 = true) (hN : rowN wordB (l.drop p) = N) (hN1 : 0 < N) (hn : ¬ (p + 1 < l.length)) : Calls Tryd.prog 21 #[.string (str l), .int .i64 (p : Int)] w (RTok p (wordO (l.drop p)) w) := by
  have e1 := str_size l
  have g0 := str_get l p (by rw [e1]; exact hp)
  rw [hx0] at g0
  have hpI : (p : Int) < (l.length : Int) := by omega
  have hlI : (l.length : Int) ≤ 1048576 := by omega
  have HL := hidden (rletter_any x0)
  rw [hlet] at HL
  have HNL : Hid (p + N ≤ l.length) := by have := rowN_le wordB (l.drop p); rw [hN, List.length_drop] at this; show _ ≤ _; omega
  have HGO := hidden (fun q => row_goes (f := wordB) (l := l) (p := p) (q := q) hN)
  have HEN := hidden (fun q => row_ends (f := wordB) (l := l) (p := p) (q := q) hN)
  have HCUT := hidden (str_cut l p N)
  have EO : Hid (wordO (l.drop p) = if 16 < N then ⟨noTok, 42, 0⟩ else ⟨⟨1, (l.drop p).take N, 0, 0⟩, 0, N⟩) := by unfold wordO; rw [hN]; rfl
  have HBX := hidden (box_new w (.int .u8 0) (.string ⟨#[]⟩) (.int .i64 0) (.int .i64 0))
  have HB0 : Hid (Below w.heap.size w (w.alloc (.cells #[.int .u8 0, .string ⟨#[]⟩, .int .i64 0, .int .i64 0] 54))) := (Below.refl _ _).alloc (Nat.le_refl _) _
  have n1 : ¬ ((p : Int) + 1 < (l.length : Int)) := by omega
  clear hN hx0 hlet
  go_enter Tryd.func21, Tryd.ntmps21
  go_wp2_with (go_at_call 42; (with_reducible refine (HL.out _).mono ?_); rintro e w' ⟨rfl, rfl⟩)
  go_loopg [9] (l.length - (p + 1)) (fun gk v wr => ∃ q : Nat, p < q ∧ q ≤ l.length ∧ gk = l.length - q ∧ v = .int .i64 (q : Int) ∧ Below w.heap.size w wr ∧ Box w.heap.size wr ∧ q ≤ p + N)
  case atStart => exact ⟨p + 1, Nat.lt_succ_self _, hp, rfl, by go_num, HB0.out, HBX.out, by omega⟩
  case round =>
    obtain ⟨q, hpq, hql, rfl, rfl, hb, hbx, hqN⟩ := hrel
    have HB := hidden hb
    clear hb HB0 HBX HL
    by_cases hgo : q < l.length ∧ wordB (by8 l q) = true
    · obtain ⟨hlt, hw⟩ := hgo
      have j1 : (q : Int) < (l.length : Int) := by omega
      have gi := str_get l q (by rw [e1]; exact hlt)
      have HI := hidden (rinside_any (by8 l q))
      have HN : Hid (q + 1 ≤ p + N) := HGO.out q (by omega) hqN hlt hw
      have HX := hidden hbx
      rw [hw] at HI
      clear hw hbx
      go_wp2_with (go_at_call 43; (with_reducible refine (HI.out _).mono ?_); rintro e w' ⟨rfl, rfl⟩)
      go_roundg (l.length - (q + 1))
      case measure => omega
      case rel => exact ⟨q + 1, by omega, by omega, rfl, by go_num, HB.out, HX.out, HN.out⟩
    · have hqe : q = p + N := by
        by_cases hlt : q < l.length
        · exact HEN.out q (by omega) hqN (by cases h : wordB (by8 l q) with | true => exact absurd ⟨hlt, h⟩ hgo | false => rfl)
        · have := HNL.out; omega
      have hcut := HCUT.out
      rw [← hqe] at hcut
      obtain ⟨x1, y1, z5, u1, c0, c1, c2, c3, f0, f1, f2, f3⟩ := hbx.parts
      have HQ := hidden hqe
      have EO' := EO.out
      clear EO
      have i0 : (0 : Int) ≤ (p : Int) := by omega
      have i1 : (p : Int) ≤ (q : Int) := by omega
      have i2 : (q : Int) ≤ (l.length : Int) := by omega
      have wq : IntKind.i64.wrap ((q : Int) - (p : Int)) = (q : Int) - (p : Int) := by rw [IntKind.wrap_i64]; omega
      have h16 : ¬ (16 < N) := by have := HNL.out; omega
      have m16 : ¬ ((16 : Int) < (q : Int) - (p : Int)) := by have := HQ.out; omega
      rw [if_neg h16] at EO'
      have HE := hidden EO'
      have j1 : ¬ ((q : Int) < (l.length : Int)) := by omega
      clear EO' hgo hqe
      go_wp2
      all_goals exact bodyPost_ret (v := .tuple #[.agg #[.int .u8 1, .string (str ((l.drop p).take N)), .int .i64 0, .int .i64 (p : Int)], .int .i64 (q : Int), .int .i64 0]) (by simp [results, Tryd.results21, go_sem, c0, c1, c2, c3, str]) rfl ⟨by rw [HE.out, HQ.out]; rfl, below_set4 HB.out⟩
theorem by8_none {l : List UInt8} {n : Nat} (h : l.length ≤ n) : by8 l n = 0 := by
  unfold by8
  rw [List.getD_eq_getElem?_getD, List.getElem?_eq_none h]
  rfl
set_option maxRecDepth 100000 in
set_option maxHeartbeats 2000000 in
theorem rtoken_arrow (l : List UInt8) (p : Nat) (w : World) (hp : p < l.length) (hl : l.length ≤ 1048576) (x0 x1 : Int) (hx0 : by8 l p = x0) (hx1 : by8 l (p + 1) = x1) (hn : p + 1 < l.length) (hlet : letB x0 = false) (h45 : x0 = 45) (h62 : x1 = 62) : Calls Tryd.prog 21 #[.string (str l), .int .i64 (p : Int)] w (RTok p (markO (l.drop p) 2) w) := by
  have e1 := str_size l
  have g0 := str_get l p (by rw [e1]; exact hp)
  rw [hx0] at g0
  have hpI : (p : Int) < (l.length : Int) := by omega
  have hlI : (l.length : Int) ≤ 1048576 := by omega
  have HL := hidden (rletter_any x0)
  rw [hlet] at HL
  have HD0 := hidden (rdigit_any x0)
  have HD1 := hidden (rdigit_any x1)
  have n1 : (p : Int) + 1 < (l.length : Int) := by omega
  have g1 := str_get l (p + 1) (by rw [e1]; exact hn)
  rw [hx1] at g1
  subst h45
  subst h62
  rw [show digB 45 = false from rfl] at HD0
  rw [show digB 62 = false from rfl] at HD1
  have HTX : Hid ((l.drop p).take 2 = [45, 62]) := by
    have a0 : by8 (l.drop p) 0 = 45 := by rw [by8_from]; exact hx0
    have a1 : by8 (l.drop p) 1 = 62 := by rw [by8_from]; exact hx1
    match hd : l.drop p, a0, a1 with
    | [], a, _ => cases a
    | [c], _, b => cases b
    | c :: d :: r, a, b =>
      have hc : (c.toNat : Int) = 45 := a
      have hd : (d.toNat : Int) = 62 := b
      have : c = 45 := UInt8.toNat_inj.mp (by show c.toNat = 45; omega)
      have : d = 62 := UInt8.toNat_inj.mp (by show d.toNat = 62; omega)
      subst_vars
      rfl
  clear hx0 hx1 hlet
  go_enter Tryd.func21, Tryd.ntmps21
  go_wp2_with (first
    | (go_at_call 42; (with_reducible refine (HL.out _).mono ?_); rintro e w' ⟨rfl, rfl⟩)
    | (go_at_call 44; (with_reducible refine (HD0.out _).mono ?_); rintro e w' ⟨rfl, rfl⟩)
    | (go_at_call 44; (with_reducible refine (HD1.out _).mono ?_); rintro e w' ⟨rfl, rfl⟩))
  all_goals exact bodyPost_ret (v := .tuple #[.agg #[.int .u8 3, .string (str [45, 62]), .int .i64 0, .int .i64 (p : Int)], .int .i64 ((p : Int) + 2), .int .i64 0]) (by simp [results, Tryd.results21, go_sem, str]) rfl ⟨by unfold markO; rw [HTX.out]; rfl, (Below.refl _ _).alloc (Nat.le_refl _) _⟩
set_option maxRecDepth 100000 in
set_option maxHeartbeats 2000000 in
theorem rtoken_markA (l : List UInt8) (p : Nat) (w : World) (hp : p < l.length) (hl : l.length ≤ 1048576) (x0 x1 : Int) (hx0 : by8 l p = x0) (hx1 : by8 l (p + 1) = x1) (hn : p + 1 < l.length) (hlet : letB x0 = false) (hd0 : digB x0 = false) (h45 : x0 ≠ 45) (hm : markB x0 = true) : Calls Tryd.prog 21 #[.string (str l), .int .i64 (p : Int)] w (RTok p (markO (l.drop p) 1) w) := by
  have e1 := str_size l
  have g0 := str_get l p (by rw [e1]; exact hp)
  rw [hx0] at g0
  have hpI : (p : Int) < (l.length : Int) := by omega
  have hlI : (l.length : Int) ≤ 1048576 := by omega
  have HL := hidden (rletter_any x0)
  rw [hlet] at HL
  have HD0 := hidden (rdigit_any x0)
  have HD1 := hidden (rdigit_any x1)
  have n1 : (p : Int) + 1 < (l.length : Int) := by omega
  have g1 := str_get l (p + 1) (by rw [e1]; exact hn)
  rw [hx1] at g1
  rw [hd0] at HD0
  have x45 : decide (x0 = 45) = false := decide_eq_false h45
  have i0 : (0 : Int) ≤ (p : Int) := by omega
  have hcut := str_cut l p 1
  have iq : (p : Int) ≤ (p : Int) + 1 := by omega
  have iq2 : (p : Int) + 1 ≤ (l.length : Int) := by omega
  have hms : x0 = 123 ∨ x0 = 125 ∨ x0 = 61 ∨ x0 = 59 ∨ x0 = 46 := by
    unfold markB at hm
    simp only [Bool.or_eq_true, decide_eq_true_eq] at hm
    omega
  clear hx0 hx1 hlet hd0 hm
  rcases hms with rfl | rfl | rfl | rfl | rfl
  all_goals
    go_enter Tryd.func21, Tryd.ntmps21
    go_wp2_with (first
      | (go_at_call 42; (with_reducible refine (HL.out _).mono ?_); rintro e w' ⟨rfl, rfl⟩)
      | (go_at_call 44; (with_reducible refine (HD0.out _).mono ?_); rintro e w' ⟨rfl, rfl⟩)
      | (go_at_call 44; (with_reducible refine (HD1.out _).mono ?_); rintro e w' ⟨rfl, rfl⟩))
    all_goals exact bodyPost_ret (v := .tuple #[.agg #[.int .u8 3, .string (str ((l.drop p).take 1)), .int .i64 0, .int .i64 (p : Int)], .int .i64 ((p : Int) + 1), .int .i64 0]) (by simp [results, Tryd.results21, go_sem, str]) rfl ⟨rfl, (Below.refl _ _).alloc (Nat.le_refl _) _⟩
set_option maxRecDepth 100000 in
set_option maxHeartbeats 2000000 in
theorem rtoken_markB (l : List UInt8) (p : Nat) (w : World) (hp : p < l.length) (hl : l.length ≤ 1048576) (x0 x1 : Int) (hx0 : by8 l p = x0) (hx1 : by8 l (p + 1) = x1) (hn : ¬ (p + 1 < l.length)) (hlet : letB x0 = false) (hd0 : digB x0 = false) (h45 : x0 ≠ 45) (hm : markB x0 = true) : Calls Tryd.prog 21 #[.string (str l), .int .i64 (p : Int)] w (RTok p (markO (l.drop p) 1) w) := by
  have e1 := str_size l
  have g0 := str_get l p (by rw [e1]; exact hp)
  rw [hx0] at g0
  have hpI : (p : Int) < (l.length : Int) := by omega
  have hlI : (l.length : Int) ≤ 1048576 := by omega
  have HL := hidden (rletter_any x0)
  rw [hlet] at HL
  have HD0 := hidden (rdigit_any x0)
  have HD1 := hidden (rdigit_any x1)
  have n1 : ¬ ((p : Int) + 1 < (l.length : Int)) := by omega
  have hx1' : by8 l (p + 1) = 0 := by8_none (by omega)
  rw [hx1] at hx1'
  subst hx1'
  rw [hd0] at HD0
  have x45 : decide (x0 = 45) = false := decide_eq_false h45
  have i0 : (0 : Int) ≤ (p : Int) := by omega
  have hcut := str_cut l p 1
  have iq : (p : Int) ≤ (p : Int) + 1 := by omega
  have iq2 : (p : Int) + 1 ≤ (l.length : Int) := by omega
  have hms : x0 = 123 ∨ x0 = 125 ∨ x0 = 61 ∨ x0 = 59 ∨ x0 = 46 := by
    unfold markB at hm
    simp only [Bool.or_eq_true, decide_eq_true_eq] at hm
    omega
  clear hx0 hx1 hlet hd0 hm
  rcases hms with rfl | rfl | rfl | rfl | rfl
  all_goals
    go_enter Tryd.func21, Tryd.ntmps21
    go_wp2_with (first
      | (go_at_call 42; (with_reducible refine (HL.out _).mono ?_); rintro e w' ⟨rfl, rfl⟩)
      | (go_at_call 44; (with_reducible refine (HD0.out _).mono ?_); rintro e w' ⟨rfl, rfl⟩)
      | (go_at_call 44; (with_reducible refine (HD1.out _).mono ?_); rintro e w' ⟨rfl, rfl⟩))
    all_goals exact bodyPost_ret (v := .tuple #[.agg #[.int .u8 3, .string (str ((l.drop p).take 1)), .int .i64 0, .int .i64 (p : Int)], .int .i64 ((p : Int) + 1), .int .i64 0]) (by simp [results, Tryd.results21, go_sem, str]) rfl ⟨rfl, (Below.refl _ _).alloc (Nat.le_refl _) _⟩
set_option maxRecDepth 100000 in
set_option maxHeartbeats 2000000 in
theorem rtoken_wrongA (l : List UInt8) (p : Nat) (w : World) (hp : p < l.length) (hl : l.length ≤ 1048576) (x0 x1 : Int) (hx0 : by8 l p = x0) (hx1 : by8 l (p + 1) = x1) (hn : p + 1 < l.length) (hlet : letB x0 = false) (h45 : x0 = 45) (h62 : x1 ≠ 62) (hd1 : digB x1 = false) : Calls Tryd.prog 21 #[.string (str l), .int .i64 (p : Int)] w (RTok p ⟨noTok, 40, 0⟩ w) := by
  have e1 := str_size l
  have g0 := str_get l p (by rw [e1]; exact hp)
  rw [hx0] at g0
  have hpI : (p : Int) < (l.length : Int) := by omega
  have hlI : (l.length : Int) ≤ 1048576 := by omega
  have HL := hidden (rletter_any x0)
  rw [hlet] at HL
  have HD0 := hidden (rdigit_any x0)
  have HD1 := hidden (rdigit_any x1)
  have n1 : (p : Int) + 1 < (l.length : Int) := by omega
  have g1 := str_get l (p + 1) (by rw [e1]; exact hn)
  rw [hx1] at g1
  subst h45
  rw [show digB 45 = false from rfl] at HD0
  rw [hd1] at HD1
  have x62 : decide (x1 = 62) = false := decide_eq_false h62
  have xb : (x1 == 62) = false := by simpa using h62
  clear hx0 hx1 hlet
  go_enter Tryd.func21, Tryd.ntmps21
  go_wp2_with (first
    | (go_at_call 42; (with_reducible refine (HL.out _).mono ?_); rintro e w' ⟨rfl, rfl⟩)
    | (go_at_call 44; (with_reducible refine (HD0.out _).mono ?_); rintro e w' ⟨rfl, rfl⟩)
    | (go_at_call 44; (with_reducible refine (HD1.out _).mono ?_); rintro e w' ⟨rfl, rfl⟩))
  all_goals exact bodyPost_ret (v := .tuple #[.agg #[.int .u8 0, .string (str []), .int .i64 0, .int .i64 0], .int .i64 0, .int .i64 40]) (by simp [results, Tryd.results21, go_sem, str]) rfl ⟨rfl, (Below.refl _ _).alloc (Nat.le_refl _) _⟩
set_option maxRecDepth 100000 in
set_option maxHeartbeats 2000000 in
theorem rtoken_wrongB (l : List UInt8) (p : Nat) (w : World) (hp : p < l.length) (hl : l.length ≤ 1048576) (x0 x1 : Int) (hx0 : by8 l p = x0) (hx1 : by8 l (p + 1) = x1) (hn : ¬ (p + 1 < l.length)) (hlet : letB x0 = false) (h45 : x0 = 45) (h62 : x1 ≠ 62) (hd1 : digB x1 = false) : Calls Tryd.prog 21 #[.string (str l), .int .i64 (p : Int)] w (RTok p ⟨noTok, 40, 0⟩ w) := by
  have e1 := str_size l
  have g0 := str_get l p (by rw [e1]; exact hp)
  rw [hx0] at g0
  have hpI : (p : Int) < (l.length : Int) := by omega
  have hlI : (l.length : Int) ≤ 1048576 := by omega
  have HL := hidden (rletter_any x0)
  rw [hlet] at HL
  have HD0 := hidden (rdigit_any x0)
  have HD1 := hidden (rdigit_any x1)
  have n1 : ¬ ((p : Int) + 1 < (l.length : Int)) := by omega
  have hx1' : by8 l (p + 1) = 0 := by8_none (by omega)
  rw [hx1] at hx1'
  subst hx1'
  subst h45
  rw [show digB 45 = false from rfl] at HD0
  rw [hd1] at HD1
  clear hx0 hx1 hlet
  go_enter Tryd.func21, Tryd.ntmps21
  go_wp2_with (first
    | (go_at_call 42; (with_reducible refine (HL.out _).mono ?_); rintro e w' ⟨rfl, rfl⟩)
    | (go_at_call 44; (with_reducible refine (HD0.out _).mono ?_); rintro e w' ⟨rfl, rfl⟩)
    | (go_at_call 44; (with_reducible refine (HD1.out _).mono ?_); rintro e w' ⟨rfl, rfl⟩))
  all_goals exact bodyPost_ret (v := .tuple #[.agg #[.int .u8 0, .string (str []), .int .i64 0, .int .i64 0], .int .i64 0, .int .i64 40]) (by simp [results, Tryd.results21, go_sem, str]) rfl ⟨rfl, (Below.refl _ _).alloc (Nat.le_refl _) _⟩
set_option maxRecDepth 100000 in
set_option maxHeartbeats 2000000 in
theorem rtoken_wrongC (l : List UInt8) (p : Nat) (w : World) (hp : p < l.length) (hl : l.length ≤ 1048576) (x0 x1 : Int) (hx0 : by8 l p = x0) (hx1 : by8 l (p + 1) = x1) (hn : p + 1 < l.length) (hlet : letB x0 = false) (hd0 : digB x0 = false) (h45 : x0 ≠ 45) (hm : markB x0 = false) : Calls Tryd.prog 21 #[.string (str l), .int .i64 (p : Int)] w (RTok p ⟨noTok, 40, 0⟩ w) := by
  have e1 := str_size l
  have g0 := str_get l p (by rw [e1]; exact hp)
  rw [hx0] at g0
  have hpI : (p : Int) < (l.length : Int) := by omega
  have hlI : (l.length : Int) ≤ 1048576 := by omega
  have HL := hidden (rletter_any x0)
  rw [hlet] at HL
  have HD0 := hidden (rdigit_any x0)
  have HD1 := hidden (rdigit_any x1)
  have n1 : (p : Int) + 1 < (l.length : Int) := by omega
  have g1 := str_get l (p + 1) (by rw [e1]; exact hn)
  rw [hx1] at g1
  rw [hd0] at HD0
  have x45 : decide (x0 = 45) = false := decide_eq_false h45
  have xb : (x0 == 45) = false := by simpa using h45
  have hms : x0 ≠ 123 ∧ x0 ≠ 125 ∧ x0 ≠ 61 ∧ x0 ≠ 59 ∧ x0 ≠ 46 := by
    refine ⟨?_, ?_, ?_, ?_, ?_⟩ <;> (intro e; subst e; cases hm)
  obtain ⟨m1, m2, m3, m4, m5⟩ := hms
  have k1 : (x0 == 123) = false := by simpa using m1
  have k2 : (x0 == 125) = false := by simpa using m2
  have k3 : (x0 == 61) = false := by simpa using m3
  have k4 : (x0 == 59) = false := by simpa using m4
  have k5 : (x0 == 46) = false := by simpa using m5
  clear hx0 hx1 hlet
  go_enter Tryd.func21, Tryd.ntmps21
  go_wp2_with (first
    | (go_at_call 42; (with_reducible refine (HL.out _).mono ?_); rintro e w' ⟨rfl, rfl⟩)
    | (go_at_call 44; (with_reducible refine (HD0.out _).mono ?_); rintro e w' ⟨rfl, rfl⟩)
    | (go_at_call 44; (with_reducible refine (HD1.out _).mono ?_); rintro e w' ⟨rfl, rfl⟩))
  all_goals exact bodyPost_ret (v := .tuple #[.agg #[.int .u8 0, .string (str []), .int .i64 0, .int .i64 0], .int .i64 0, .int .i64 40]) (by simp [results, Tryd.results21, go_sem, str]) rfl ⟨rfl, (Below.refl _ _).alloc (Nat.le_refl _) _⟩
set_option maxRecDepth 100000 in
set_option maxHeartbeats 2000000 in
theorem rtoken_wrongD (l : List UInt8) (p : Nat) (w : World) (hp : p < l.length) (hl : l.length ≤ 1048576) (x0 x1 : Int) (hx0 : by8 l p = x0) (hx1 : by8 l (p + 1) = x1) (hn : ¬ (p + 1 < l.length)) (hlet : letB x0 = false) (hd0 : digB x0 = false) (h45 : x0 ≠ 45) (hm : markB x0 = false) : Calls Tryd.prog 21 #[.string (str l), .int .i64 (p : Int)] w (RTok p ⟨noTok, 40, 0⟩ w) := by
  have e1 := str_size l
  have g0 := str_get l p (by rw [e1]; exact hp)
  rw [hx0] at g0
  have hpI : (p : Int) < (l.length : Int) := by omega
  have hlI : (l.length : Int) ≤ 1048576 := by omega
  have HL := hidden (rletter_any x0)
  rw [hlet] at HL
  have HD0 := hidden (rdigit_any x0)
  have HD1 := hidden (rdigit_any x1)
  have n1 : ¬ ((p : Int) + 1 < (l.length : Int)) := by omega
  have hx1' : by8 l (p + 1) = 0 := by8_none (by omega)
  rw [hx1] at hx1'
  subst hx1'
  rw [hd0] at HD0
  have x45 : decide (x0 = 45) = false := decide_eq_false h45
  have xb : (x0 == 45) = false := by simpa using h45
  have hms : x0 ≠ 123 ∧ x0 ≠ 125 ∧ x0 ≠ 61 ∧ x0 ≠ 59 ∧ x0 ≠ 46 := by
    refine ⟨?_, ?_, ?_, ?_, ?_⟩ <;> (intro e; subst e; cases hm)
  obtain ⟨m1, m2, m3, m4, m5⟩ := hms
  have k1 : (x0 == 123) = false := by simpa using m1
  have k2 : (x0 == 125) = false := by simpa using m2
  have k3 : (x0 == 61) = false := by simpa using m3
  have k4 : (x0 == 59) = false := by simpa using m4
  have k5 : (x0 == 46) = false := by simpa using m5
  clear hx0 hx1 hlet
  go_enter Tryd.func21, Tryd.ntmps21
  go_wp2_with (first
    | (go_at_call 42; (with_reducible refine (HL.out _).mono ?_); rintro e w' ⟨rfl, rfl⟩)
    | (go_at_call 44; (with_reducible refine (HD0.out _).mono ?_); rintro e w' ⟨rfl, rfl⟩)
    | (go_at_call 44; (with_reducible refine (HD1.out _).mono ?_); rintro e w' ⟨rfl, rfl⟩))
  all_goals exact bodyPost_ret (v := .tuple #[.agg #[.int .u8 0, .string (str []), .int .i64 0, .int .i64 0], .int .i64 0, .int .i64 40]) (by simp [results, Tryd.results21, go_sem, str]) rfl ⟨rfl, (Below.refl _ _).alloc (Nat.le_refl _) _⟩
set_option maxRecDepth 100000 in
set_option maxHeartbeats 2000000 in
theorem rtoken_numA (l : List UInt8) (p N : Nat) (w : World) (hp : p < l.length) (hl : l.length ≤ 1048576) (x0 x1 : Int) (hx0 : by8 l p = x0) (hx1 : by8 l (p + 1) = x1) (hn : p + 1 < l.length) (hlet : letB x0 = false) (hd0 : digB x0 = true) (hN : rowN digB (l.drop (p)) = N) (hN1 : 0 < N) (v : Int) (HNUM : Hid (∀ W, Calls Tryd.prog 45 #[.string (str (sgnS false ((l.drop (p)).take N)))] W fun e w' => e = .returned (.tuple #[.int .i64 v, .bool true]) ∧ Below W.heap.size W w')) : Calls Tryd.prog 21 #[.string (str l), .int .i64 (p : Int)] w (RTok p ⟨⟨2, [], v, 0⟩, 0, N⟩ w) := by
  have e1 := str_size l
  have g0 := str_get l p (by rw [e1]; exact hp)
  rw [hx0] at g0
  have hpI : (p : Int) < (l.length : Int) := by omega
  have hlI : (l.length : Int) ≤ 1048576 := by omega
  have HL := hidden (rletter_any x0)
  rw [hlet] at HL
  have HD0 := hidden (rdigit_any x0)
  have HD1 := hidden (rdigit_any x1)
  have n1 : (p : Int) + 1 < (l.length : Int) := by omega
  have g1 := str_get l (p + 1) (by rw [e1]; exact hn)
  rw [hx1] at g1
  rw [hd0] at HD0
  have HNL : Hid (p + N ≤ l.length) := by have := rowN_le digB (l.drop (p)); rw [hN, List.length_drop] at this; show _ ≤ _; omega
  have HGO := hidden (fun q => row_goes (f := digB) (l := l) (p := p) (q := q) hN)
  have HEN := hidden (fun q => row_ends (f := digB) (l := l) (p := p) (q := q) hN)
  have HCUT : Hid ((str l).extract p (p + N) = str (sgnS false ((l.drop p).take N))) := str_cut l p N
  have HBX := hidden (box_new w (.int .u8 0) (.string ⟨#[]⟩) (.int .i64 0) (.int .i64 0))
  have HB0 : Hid (Below w.heap.size w (w.alloc (.cells #[.int .u8 0, .string ⟨#[]⟩, .int .i64 0, .int .i64 0] 54))) := (Below.refl _ _).alloc (Nat.le_refl _) _
  obtain ⟨S, hS⟩ : ∃ S, str (sgnS false ((l.drop (p)).take N)) = S := ⟨_, rfl⟩
  rw [hS] at HNUM HCUT
  clear hN hx0 hx1 hlet hS hd0
  go_enter Tryd.func21, Tryd.ntmps21
  go_wp2_with (first
    | (go_at_call 42; (with_reducible refine (HL.out _).mono ?_); rintro e w' ⟨rfl, rfl⟩)
    | (go_at_call 44; (with_reducible refine (HD0.out _).mono ?_); rintro e w' ⟨rfl, rfl⟩)
    | (go_at_call 44; (with_reducible refine (HD1.out _).mono ?_); rintro e w' ⟨rfl, rfl⟩))
  go_loopg [9] (l.length - (p + 1)) (fun gk v wr => ∃ q : Nat, p < q ∧ q ≤ l.length ∧ gk = l.length - q ∧ v = .int .i64 (q : Int) ∧ Below w.heap.size w wr ∧ Box w.heap.size wr ∧ q ≤ p + N)
  case atStart => exact ⟨p + 1, Nat.lt_succ_self _, hp, rfl, by go_num, HB0.out, HBX.out, by omega⟩
  case round =>
    obtain ⟨q, hpq, hql, rfl, rfl, hb, hbx, hqN⟩ := hrel
    have HB := hidden hb
    clear hb HB0 HBX HL HD0 HD1
    by_cases hgo : q < l.length ∧ digB (by8 l q) = true
    · obtain ⟨hlt, hw⟩ := hgo
      have j1 : (q : Int) < (l.length : Int) := by omega
      have gi := str_get l q (by rw [e1]; exact hlt)
      have HI := hidden (rdigit_any (by8 l q))
      have HN : Hid (q + 1 ≤ p + N) := HGO.out q (by omega) hqN hlt hw
      have HX := hidden hbx
      rw [hw] at HI
      clear hw hbx
      go_wp2_with (go_at_call 44; (with_reducible refine (HI.out _).mono ?_); rintro e w' ⟨rfl, rfl⟩)
      go_roundg (l.length - (q + 1))
      case measure => omega
      case rel => exact ⟨q + 1, by omega, by omega, rfl, by go_num, HB.out, HX.out, HN.out⟩
    · have hqe : q = p + N := by
        by_cases hlt : q < l.length
        · exact HEN.out q (by omega) hqN (by cases h : digB (by8 l q) with | true => exact absurd ⟨hlt, h⟩ hgo | false => rfl)
        · have := HNL.out; omega
      have hcut := HCUT.out
      rw [← hqe] at hcut
      have HBOX := hidden hbx
      have HQ := hidden hqe
      have i0 : (0 : Int) ≤ (p : Int) := by omega
      have i1 : (p : Int) ≤ (q : Int) := by omega
      have i2 : (q : Int) ≤ (l.length : Int) := by omega
      clear HCUT hqe hbx
      by_cases hlt : q < l.length
      · have j1 : (q : Int) < (l.length : Int) := by omega
        have gi := str_get l q (by rw [e1]; exact hlt)
        have HI := hidden (rdigit_any (by8 l q))
        have hw' : digB (by8 l q) = false := by cases h : digB (by8 l q) with | true => exact absurd ⟨hlt, h⟩ hgo | false => rfl
        rw [hw'] at HI
        clear hw' hgo
        go_wp2_with (first
          | (go_at_call 44; (with_reducible refine (HI.out _).mono ?_); rintro e w' ⟨rfl, rfl⟩)
          | (go_at_call 45; (with_reducible refine (HNUM.out _).mono ?_); rintro e w1 ⟨rfl, hb1⟩; have HB2 := hidden (HB.out.trans (hb1.mono HB.out.size)); obtain ⟨x1, y1, z5, u1, c0, c1, c2, c3, f0, f1, f2, f3⟩ := (HBOX.out.below hb1).parts; clear hb1))
        all_goals exact bodyPost_ret (v := .tuple #[.agg #[.int .u8 2, .string (str []), .int .i64 v, .int .i64 (p : Int)], .int .i64 (q : Int), .int .i64 0]) (by simp [results, Tryd.results21, go_sem, c0, c1, c2, c3, str]) rfl ⟨by rw [HQ.out]; simp [], below_set4 HB2.out⟩
      · have j1 : ¬ ((q : Int) < (l.length : Int)) := by omega
        clear hgo
        go_wp2_with (go_at_call 45; (with_reducible refine (HNUM.out _).mono ?_); rintro e w1 ⟨rfl, hb1⟩; have HB2 := hidden (HB.out.trans (hb1.mono HB.out.size)); obtain ⟨x1, y1, z5, u1, c0, c1, c2, c3, f0, f1, f2, f3⟩ := (HBOX.out.below hb1).parts; clear hb1)
        all_goals exact bodyPost_ret (v := .tuple #[.agg #[.int .u8 2, .string (str []), .int .i64 v, .int .i64 (p : Int)], .int .i64 (q : Int), .int .i64 0]) (by simp [results, Tryd.results21, go_sem, c0, c1, c2, c3, str]) rfl ⟨by rw [HQ.out]; simp [], below_set4 HB2.out⟩

set_option maxRecDepth 100000 in
set_option maxHeartbeats 2000000 in
theorem rtoken_numB (l : List UInt8) (p N : Nat) (w : World) (hp : p < l.length) (hl : l.length ≤ 1048576) (x0 x1 : Int) (hx0 : by8 l p = x0) (_hx1 : by8 l (p + 1) = x1) (hn : ¬ (p + 1 < l.length)) (hlet : letB x0 = false) (hd0 : digB x0 = true) (hN : rowN digB (l.drop (p)) = N) (hN1 : 0 < N) (v : Int) (HNUM : Hid (∀ W, Calls Tryd.prog 45 #[.string (str (sgnS false ((l.drop (p)).take N)))] W fun e w' => e = .returned (.tuple #[.int .i64 v, .bool true]) ∧ Below W.heap.size W w')) : Calls Tryd.prog 21 #[.string (str l), .int .i64 (p : Int)] w (RTok p ⟨⟨2, [], v, 0⟩, 0, N⟩ w) := by
  have e1 := str_size l
  have g0 := str_get l p (by rw [e1]; exact hp)
  rw [hx0] at g0
  have hpI : (p : Int) < (l.length : Int) := by omega
  have hlI : (l.length : Int) ≤ 1048576 := by omega
  have HL := hidden (rletter_any x0)
  rw [hlet] at HL
  have HD0 := hidden (rdigit_any x0)
  have HD1 := hidden (rdigit_any x1)
  have n1 : ¬ ((p : Int) + 1 < (l.length : Int)) := by omega
  rw [hd0] at HD0
  have HNL : Hid (p + N ≤ l.length) := by have := rowN_le digB (l.drop (p)); rw [hN, List.length_drop] at this; show _ ≤ _; omega
  have HGO := hidden (fun q => row_goes (f := digB) (l := l) (p := p) (q := q) hN)
  have HEN := hidden (fun q => row_ends (f := digB) (l := l) (p := p) (q := q) hN)
  have HCUT : Hid ((str l).extract p (p + N) = str (sgnS false ((l.drop p).take N))) := str_cut l p N
  have HBX := hidden (box_new w (.int .u8 0) (.string ⟨#[]⟩) (.int .i64 0) (.int .i64 0))
  have HB0 : Hid (Below w.heap.size w (w.alloc (.cells #[.int .u8 0, .string ⟨#[]⟩, .int .i64 0, .int .i64 0] 54))) := (Below.refl _ _).alloc (Nat.le_refl _) _
  obtain ⟨S, hS⟩ : ∃ S, str (sgnS false ((l.drop (p)).take N)) = S := ⟨_, rfl⟩
  rw [hS] at HNUM HCUT
  clear hN hx0 _hx1 hlet hS hd0
  go_enter Tryd.func21, Tryd.ntmps21
  go_wp2_with (first
    | (go_at_call 42; (with_reducible refine (HL.out _).mono ?_); rintro e w' ⟨rfl, rfl⟩)
    | (go_at_call 44; (with_reducible refine (HD0.out _).mono ?_); rintro e w' ⟨rfl, rfl⟩)
    | (go_at_call 44; (with_reducible refine (HD1.out _).mono ?_); rintro e w' ⟨rfl, rfl⟩))
  go_loopg [9] (l.length - (p + 1)) (fun gk v wr => ∃ q : Nat, p < q ∧ q ≤ l.length ∧ gk = l.length - q ∧ v = .int .i64 (q : Int) ∧ Below w.heap.size w wr ∧ Box w.heap.size wr ∧ q ≤ p + N)
  case atStart => exact ⟨p + 1, Nat.lt_succ_self _, hp, rfl, by go_num, HB0.out, HBX.out, by omega⟩
  case round =>
    obtain ⟨q, hpq, hql, rfl, rfl, hb, hbx, hqN⟩ := hrel
    have HB := hidden hb
    clear hb HB0 HBX HL HD0 HD1
    by_cases hgo : q < l.length ∧ digB (by8 l q) = true
    · obtain ⟨hlt, hw⟩ := hgo
      have j1 : (q : Int) < (l.length : Int) := by omega
      have gi := str_get l q (by rw [e1]; exact hlt)
      have HI := hidden (rdigit_any (by8 l q))
      have HN : Hid (q + 1 ≤ p + N) := HGO.out q (by omega) hqN hlt hw
      have HX := hidden hbx
      rw [hw] at HI
      clear hw hbx
      go_wp2_with (go_at_call 44; (with_reducible refine (HI.out _).mono ?_); rintro e w' ⟨rfl, rfl⟩)
      go_roundg (l.length - (q + 1))
      case measure => omega
      case rel => exact ⟨q + 1, by omega, by omega, rfl, by go_num, HB.out, HX.out, HN.out⟩
    · have hqe : q = p + N := by
        by_cases hlt : q < l.length
        · exact HEN.out q (by omega) hqN (by cases h : digB (by8 l q) with | true => exact absurd ⟨hlt, h⟩ hgo | false => rfl)
        · have := HNL.out; omega
      have hcut := HCUT.out
      rw [← hqe] at hcut
      have HBOX := hidden hbx
      have HQ := hidden hqe
      have i0 : (0 : Int) ≤ (p : Int) := by omega
      have i1 : (p : Int) ≤ (q : Int) := by omega
      have i2 : (q : Int) ≤ (l.length : Int) := by omega
      clear HCUT hqe hbx
      have j1 : ¬ ((q : Int) < (l.length : Int)) := by omega
      clear hgo
      go_wp2_with (go_at_call 45; (with_reducible refine (HNUM.out _).mono ?_); rintro e w1 ⟨rfl, hb1⟩; have HB2 := hidden (HB.out.trans (hb1.mono HB.out.size)); obtain ⟨x1, y1, z5, u1, c0, c1, c2, c3, f0, f1, f2, f3⟩ := (HBOX.out.below hb1).parts; clear hb1)
      all_goals exact bodyPost_ret (v := .tuple #[.agg #[.int .u8 2, .string (str []), .int .i64 v, .int .i64 (p : Int)], .int .i64 (q : Int), .int .i64 0]) (by simp [results, Tryd.results21, go_sem, c0, c1, c2, c3, str]) rfl ⟨by rw [HQ.out]; simp [], below_set4 HB2.out⟩

set_option maxRecDepth 100000 in
set_option maxHeartbeats 2000000 in
theorem rtoken_numC (l : List UInt8) (p N : Nat) (w : World) (hp : p < l.length) (hl : l.length ≤ 1048576) (x0 x1 : Int) (hx0 : by8 l p = x0) (hx1 : by8 l (p + 1) = x1) (hn : p + 1 < l.length) (hlet : letB x0 = false) (hd0 : digB x0 = true) (hN : rowN digB (l.drop (p)) = N) (hN1 : 0 < N) (HNUM : Hid (∀ W, Calls Tryd.prog 45 #[.string (str (sgnS false ((l.drop (p)).take N)))] W fun e w' => ∃ v, e = .returned (.tuple #[.int .i64 v, .bool false]) ∧ Below W.heap.size W w')) : Calls Tryd.prog 21 #[.string (str l), .int .i64 (p : Int)] w (RTok p ⟨noTok, 41, 0⟩ w) := by
  have e1 := str_size l
  have g0 := str_get l p (by rw [e1]; exact hp)
  rw [hx0] at g0
  have hpI : (p : Int) < (l.length : Int) := by omega
  have hlI : (l.length : Int) ≤ 1048576 := by omega
  have HL := hidden (rletter_any x0)
  rw [hlet] at HL
  have HD0 := hidden (rdigit_any x0)
  have HD1 := hidden (rdigit_any x1)
  have n1 : (p : Int) + 1 < (l.length : Int) := by omega
  have g1 := str_get l (p + 1) (by rw [e1]; exact hn)
  rw [hx1] at g1
  rw [hd0] at HD0
  have HNL : Hid (p + N ≤ l.length) := by have := rowN_le digB (l.drop (p)); rw [hN, List.length_drop] at this; show _ ≤ _; omega
  have HGO := hidden (fun q => row_goes (f := digB) (l := l) (p := p) (q := q) hN)
  have HEN := hidden (fun q => row_ends (f := digB) (l := l) (p := p) (q := q) hN)
  have HCUT : Hid ((str l).extract p (p + N) = str (sgnS false ((l.drop p).take N))) := str_cut l p N
  have HBX := hidden (box_new w (.int .u8 0) (.string ⟨#[]⟩) (.int .i64 0) (.int .i64 0))
  have HB0 : Hid (Below w.heap.size w (w.alloc (.cells #[.int .u8 0, .string ⟨#[]⟩, .int .i64 0, .int .i64 0] 54))) := (Below.refl _ _).alloc (Nat.le_refl _) _
  obtain ⟨S, hS⟩ : ∃ S, str (sgnS false ((l.drop (p)).take N)) = S := ⟨_, rfl⟩
  rw [hS] at HNUM HCUT
  clear hN hx0 hx1 hlet hS hd0
  go_enter Tryd.func21, Tryd.ntmps21
  go_wp2_with (first
    | (go_at_call 42; (with_reducible refine (HL.out _).mono ?_); rintro e w' ⟨rfl, rfl⟩)
    | (go_at_call 44; (with_reducible refine (HD0.out _).mono ?_); rintro e w' ⟨rfl, rfl⟩)
    | (go_at_call 44; (with_reducible refine (HD1.out _).mono ?_); rintro e w' ⟨rfl, rfl⟩))
  go_loopg [9] (l.length - (p + 1)) (fun gk v wr => ∃ q : Nat, p < q ∧ q ≤ l.length ∧ gk = l.length - q ∧ v = .int .i64 (q : Int) ∧ Below w.heap.size w wr ∧ Box w.heap.size wr ∧ q ≤ p + N)
  case atStart => exact ⟨p + 1, Nat.lt_succ_self _, hp, rfl, by go_num, HB0.out, HBX.out, by omega⟩
  case round =>
    obtain ⟨q, hpq, hql, rfl, rfl, hb, hbx, hqN⟩ := hrel
    have HB := hidden hb
    clear hb HB0 HBX HL HD0 HD1
    by_cases hgo : q < l.length ∧ digB (by8 l q) = true
    · obtain ⟨hlt, hw⟩ := hgo
      have j1 : (q : Int) < (l.length : Int) := by omega
      have gi := str_get l q (by rw [e1]; exact hlt)
      have HI := hidden (rdigit_any (by8 l q))
      have HN : Hid (q + 1 ≤ p + N) := HGO.out q (by omega) hqN hlt hw
      have HX := hidden hbx
      rw [hw] at HI
      clear hw hbx
      go_wp2_with (go_at_call 44; (with_reducible refine (HI.out _).mono ?_); rintro e w' ⟨rfl, rfl⟩)
      go_roundg (l.length - (q + 1))
      case measure => omega
      case rel => exact ⟨q + 1, by omega, by omega, rfl, by go_num, HB.out, HX.out, HN.out⟩
    · have hqe : q = p + N := by
        by_cases hlt : q < l.length
        · exact HEN.out q (by omega) hqN (by cases h : digB (by8 l q) with | true => exact absurd ⟨hlt, h⟩ hgo | false => rfl)
        · have := HNL.out; omega
      have hcut := HCUT.out
      rw [← hqe] at hcut
      have HBOX := hidden hbx
      have HQ := hidden hqe
      have i0 : (0 : Int) ≤ (p : Int) := by omega
      have i1 : (p : Int) ≤ (q : Int) := by omega
      have i2 : (q : Int) ≤ (l.length : Int) := by omega
      clear HCUT hqe hbx
      by_cases hlt : q < l.length
      · have j1 : (q : Int) < (l.length : Int) := by omega
        have gi := str_get l q (by rw [e1]; exact hlt)
        have HI := hidden (rdigit_any (by8 l q))
        have hw' : digB (by8 l q) = false := by cases h : digB (by8 l q) with | true => exact absurd ⟨hlt, h⟩ hgo | false => rfl
        rw [hw'] at HI
        clear hw' hgo
        go_wp2_with (first
          | (go_at_call 44; (with_reducible refine (HI.out _).mono ?_); rintro e w' ⟨rfl, rfl⟩)
          | (go_at_call 45; (with_reducible refine (HNUM.out _).mono ?_); rintro e w1 ⟨v, rfl, hb1⟩; have HB2 := hidden (HB.out.trans (hb1.mono HB.out.size)); obtain ⟨x1, y1, z5, u1, c0, c1, c2, c3, f0, f1, f2, f3⟩ := (HBOX.out.below hb1).parts; clear hb1))
        all_goals exact bodyPost_ret (v := .tuple #[.agg #[.int .u8 0, .string (str []), .int .i64 0, .int .i64 0], .int .i64 0, .int .i64 41]) (by simp [results, Tryd.results21, go_sem, c0, c1, c2, c3, str]) rfl ⟨rfl, below_set4 HB2.out⟩
      · have j1 : ¬ ((q : Int) < (l.length : Int)) := by omega
        clear hgo
        go_wp2_with (go_at_call 45; (with_reducible refine (HNUM.out _).mono ?_); rintro e w1 ⟨v, rfl, hb1⟩; have HB2 := hidden (HB.out.trans (hb1.mono HB.out.size)); obtain ⟨x1, y1, z5, u1, c0, c1, c2, c3, f0, f1, f2, f3⟩ := (HBOX.out.below hb1).parts; clear hb1)
        all_goals exact bodyPost_ret (v := .tuple #[.agg #[.int .u8 0, .string (str []), .int .i64 0, .int .i64 0], .int .i64 0, .int .i64 41]) (by simp [results, Tryd.results21, go_sem, c0, c1, c2, c3, str]) rfl ⟨rfl, below_set4 HB2.out⟩

set_option maxRecDepth 100000 in
set_option maxHeartbeats 2000000 in
theorem rtoken_numD (l : List UInt8) (p N : Nat) (w : World) (hp : p < l.length) (hl : l.length ≤ 1048576) (x0 x1 : Int) (hx0 : by8 l p = x0) (_hx1 : by8 l (p + 1) = x1) (hn : ¬ (p + 1 < l.length)) (hlet : letB x0 = false) (hd0 : digB x0 = true) (hN : rowN digB (l.drop (p)) = N) (hN1 : 0 < N) (HNUM : Hid (∀ W, Calls Tryd.prog 45 #[.string (str (sgnS false ((l.drop (p)).take N)))] W fun e w' => ∃ v, e = .returned (.tuple #[.int .i64 v, .bool false]) ∧ Below W.heap.size W w')) : Calls Tryd.prog 21 #[.string (str l), .int .i64 (p : Int)] w (RTok p ⟨noTok, 41, 0⟩ w) := by
  have e1 := str_size l
  have g0 := str_get l p (by rw [e1]; exact hp)
  rw [hx0] at g0
  have hpI : (p : Int) < (l.length : Int) := by omega
  have hlI : (l.length : Int) ≤ 1048576 := by omega
  have HL := hidden (rletter_any x0)
  rw [hlet] at HL
  have HD0 := hidden (rdigit_any x0)
  have HD1 := hidden (rdigit_any x1)
  have n1 : ¬ ((p : Int) + 1 < (l.length : Int)) := by omega
  rw [hd0] at HD0
  have HNL : Hid (p + N ≤ l.length) := by have := rowN_le digB (l.drop (p)); rw [hN, List.length_drop] at this; show _ ≤ _; omega
  have HGO := hidden (fun q => row_goes (f := digB) (l := l) (p := p) (q := q) hN)
  have HEN := hidden (fun q => row_ends (f := digB) (l := l) (p := p) (q := q) hN)
  have HCUT : Hid ((str l).extract p (p + N) = str (sgnS false ((l.drop p).take N))) := str_cut l p N
  have HBX := hidden (box_new w (.int .u8 0) (.string ⟨#[]⟩) (.int .i64 0) (.int .i64 0))
  have HB0 : Hid (Below w.heap.size w (w.alloc (.cells #[.int .u8 0, .string ⟨#[]⟩, .int .i64 0, .int .i64 0] 54))) := (Below.refl _ _).alloc (Nat.le_refl _) _
  obtain ⟨S, hS⟩ : ∃ S, str (sgnS false ((l.drop (p)).take N)) = S := ⟨_, rfl⟩
  rw [hS] at HNUM HCUT
  clear hN hx0 _hx1 hlet hS hd0
  go_enter Tryd.func21, Tryd.ntmps21
  go_wp2_with (first
    | (go_at_call 42; (with_reducible refine (HL.out _).mono ?_); rintro e w' ⟨rfl, rfl⟩)
    | (go_at_call 44; (with_reducible refine (HD0.out _).mono ?_); rintro e w' ⟨rfl, rfl⟩)
    | (go_at_call 44; (with_reducible refine (HD1.out _).mono ?_); rintro e w' ⟨rfl, rfl⟩))
  go_loopg [9] (l.length - (p + 1)) (fun gk v wr => ∃ q : Nat, p < q ∧ q ≤ l.length ∧ gk = l.length - q ∧ v = .int .i64 (q : Int) ∧ Below w.heap.size w wr ∧ Box w.heap.size wr ∧ q ≤ p + N)
  case atStart => exact ⟨p + 1, Nat.lt_succ_self _, hp, rfl, by go_num, HB0.out, HBX.out, by omega⟩
  case round =>
    obtain ⟨q, hpq, hql, rfl, rfl, hb, hbx, hqN⟩ := hrel
    have HB := hidden hb
    clear hb HB0 HBX HL HD0 HD1
    by_cases hgo : q < l.length ∧ digB (by8 l q) = true
    · obtain ⟨hlt, hw⟩ := hgo
      have j1 : (q : Int) < (l.length : Int) := by omega
      have gi := str_get l q (by rw [e1]; exact hlt)
      have HI := hidden (rdigit_any (by8 l q))
      have HN : Hid (q + 1 ≤ p + N) := HGO.out q (by omega) hqN hlt hw
      have HX := hidden hbx
      rw [hw] at HI
      clear hw hbx
      go_wp2_with (go_at_call 44; (with_reducible refine (HI.out _).mono ?_); rintro e w' ⟨rfl, rfl⟩)
      go_roundg (l.length - (q + 1))
      case measure => omega
      case rel => exact ⟨q + 1, by omega, by omega, rfl, by go_num, HB.out, HX.out, HN.out⟩
    · have hqe : q = p + N := by
        by_cases hlt : q < l.length
        · exact HEN.out q (by omega) hqN (by cases h : digB (by8 l q) with | true => exact absurd ⟨hlt, h⟩ hgo | false => rfl)
        · have := HNL.out; omega
      have hcut := HCUT.out
      rw [← hqe] at hcut
      have HBOX := hidden hbx
      have HQ := hidden hqe
      have i0 : (0 : Int) ≤ (p : Int) := by omega
      have i1 : (p : Int) ≤ (q : Int) := by omega
      have i2 : (q : Int) ≤ (l.length : Int) := by omega
      clear HCUT hqe hbx
      have j1 : ¬ ((q : Int) < (l.length : Int)) := by omega
      clear hgo
      go_wp2_with (go_at_call 45; (with_reducible refine (HNUM.out _).mono ?_); rintro e w1 ⟨v, rfl, hb1⟩; have HB2 := hidden (HB.out.trans (hb1.mono HB.out.size)); obtain ⟨x1, y1, z5, u1, c0, c1, c2, c3, f0, f1, f2, f3⟩ := (HBOX.out.below hb1).parts; clear hb1)
      all_goals exact bodyPost_ret (v := .tuple #[.agg #[.int .u8 0, .string (str []), .int .i64 0, .int .i64 0], .int .i64 0, .int .i64 41]) (by simp [results, Tryd.results21, go_sem, c0, c1, c2, c3, str]) rfl ⟨rfl, below_set4 HB2.out⟩

set_option maxRecDepth 100000 in
set_option maxHeartbeats 2000000 in
theorem rtoken_minA (l : List UInt8) (p N : Nat) (w : World) (hp : p < l.length) (hl : l.length ≤ 1048576) (x0 x1 : Int) (hx0 : by8 l p = x0) (hx1 : by8 l (p + 1) = x1) (hn : p + 1 < l.length) (hlet : letB x0 = false) (h45 : x0 = 45) (hd1 : digB x1 = true) (hN : rowN digB (l.drop (p + 1)) = N) (hN1 : 0 < N) (v : Int) (HNUM : Hid (∀ W, Calls Tryd.prog 45 #[.string (str (sgnS true ((l.drop (p + 1)).take N)))] W fun e w' => e = .returned (.tuple #[.int .i64 v, .bool true]) ∧ Below W.heap.size W w')) : Calls Tryd.prog 21 #[.string (str l), .int .i64 (p : Int)] w (RTok p ⟨⟨2, [], v, 0⟩, 0, 1 + N⟩ w) := by
  have e1 := str_size l
  have g0 := str_get l p (by rw [e1]; exact hp)
  rw [hx0] at g0
  have hpI : (p : Int) < (l.length : Int) := by omega
  have hlI : (l.length : Int) ≤ 1048576 := by omega
  have HL := hidden (rletter_any x0)
  rw [hlet] at HL
  have HD0 := hidden (rdigit_any x0)
  have HD1 := hidden (rdigit_any x1)
  have n1 : (p : Int) + 1 < (l.length : Int) := by omega
  have g1 := str_get l (p + 1) (by rw [e1]; exact hn)
  rw [hx1] at g1
  subst h45
  rw [show digB 45 = false from rfl] at HD0
  rw [hd1] at HD1
  have HNL : Hid (p + 1 + N ≤ l.length) := by have := rowN_le digB (l.drop (p + 1)); rw [hN, List.length_drop] at this; show _ ≤ _; omega
  have HGO := hidden (fun q => row_goes (f := digB) (l := l) (p := p + 1) (q := q) hN)
  have HEN := hidden (fun q => row_ends (f := digB) (l := l) (p := p + 1) (q := q) hN)
  have HCUT : Hid ((str l).extract p (p + 1 + N) = str (sgnS true ((l.drop (p + 1)).take N))) := by
    have := str_cut l p (1 + N)
    rw [← Nat.add_assoc] at this
    show _ = _
    rw [this]
    have e : l.drop p = 45 :: l.drop (p + 1) := by
      rw [List.drop_eq_getElem_cons hp]
      have : (l[p].toNat : Int) = 45 := by
        have h := hx0
        unfold by8 at h
        rw [List.getD_eq_getElem?_getD, List.getElem?_eq_getElem hp] at h
        exact h
      have h2 : l[p] = 45 := UInt8.toNat_inj.mp (by show l[p].toNat = 45; omega)
      rw [h2]
    rw [e, Nat.add_comm 1 N]
    rfl
  have HBX := hidden (box_new w (.int .u8 0) (.string ⟨#[]⟩) (.int .i64 0) (.int .i64 0))
  have HB0 : Hid (Below w.heap.size w (w.alloc (.cells #[.int .u8 0, .string ⟨#[]⟩, .int .i64 0, .int .i64 0] 54))) := (Below.refl _ _).alloc (Nat.le_refl _) _
  obtain ⟨S, hS⟩ : ∃ S, str (sgnS true ((l.drop (p + 1)).take N)) = S := ⟨_, rfl⟩
  rw [hS] at HNUM HCUT
  clear hN hx0 hx1 hlet hS hd1
  go_enter Tryd.func21, Tryd.ntmps21
  go_wp2_with (first
    | (go_at_call 42; (with_reducible refine (HL.out _).mono ?_); rintro e w' ⟨rfl, rfl⟩)
    | (go_at_call 44; (with_reducible refine (HD0.out _).mono ?_); rintro e w' ⟨rfl, rfl⟩)
    | (go_at_call 44; (with_reducible refine (HD1.out _).mono ?_); rintro e w' ⟨rfl, rfl⟩))
  go_loopg [9] (l.length - (p + 1)) (fun gk v wr => ∃ q : Nat, p < q ∧ q ≤ l.length ∧ gk = l.length - q ∧ v = .int .i64 (q : Int) ∧ Below w.heap.size w wr ∧ Box w.heap.size wr ∧ q ≤ p + 1 + N)
  case atStart => exact ⟨p + 1, Nat.lt_succ_self _, hp, rfl, by go_num, HB0.out, HBX.out, by omega⟩
  case round =>
    obtain ⟨q, hpq, hql, rfl, rfl, hb, hbx, hqN⟩ := hrel
    have HB := hidden hb
    clear hb HB0 HBX HL HD0 HD1
    by_cases hgo : q < l.length ∧ digB (by8 l q) = true
    · obtain ⟨hlt, hw⟩ := hgo
      have j1 : (q : Int) < (l.length : Int) := by omega
      have gi := str_get l q (by rw [e1]; exact hlt)
      have HI := hidden (rdigit_any (by8 l q))
      have HN : Hid (q + 1 ≤ p + 1 + N) := HGO.out q (by omega) hqN hlt hw
      have HX := hidden hbx
      rw [hw] at HI
      clear hw hbx
      go_wp2_with (go_at_call 44; (with_reducible refine (HI.out _).mono ?_); rintro e w' ⟨rfl, rfl⟩)
      go_roundg (l.length - (q + 1))
      case measure => omega
      case rel => exact ⟨q + 1, by omega, by omega, rfl, by go_num, HB.out, HX.out, HN.out⟩
    · have hqe : q = p + 1 + N := by
        by_cases hlt : q < l.length
        · exact HEN.out q (by omega) hqN (by cases h : digB (by8 l q) with | true => exact absurd ⟨hlt, h⟩ hgo | false => rfl)
        · have := HNL.out; omega
      have hcut := HCUT.out
      rw [← hqe] at hcut
      have HBOX := hidden hbx
      have HQ := hidden hqe
      have i0 : (0 : Int) ≤ (p : Int) := by omega
      have i1 : (p : Int) ≤ (q : Int) := by omega
      have i2 : (q : Int) ≤ (l.length : Int) := by omega
      clear HCUT hqe hbx
      by_cases hlt : q < l.length
      · have j1 : (q : Int) < (l.length : Int) := by omega
        have gi := str_get l q (by rw [e1]; exact hlt)
        have HI := hidden (rdigit_any (by8 l q))
        have hw' : digB (by8 l q) = false := by cases h : digB (by8 l q) with | true => exact absurd ⟨hlt, h⟩ hgo | false => rfl
        rw [hw'] at HI
        clear hw' hgo
        go_wp2_with (first
          | (go_at_call 44; (with_reducible refine (HI.out _).mono ?_); rintro e w' ⟨rfl, rfl⟩)
          | (go_at_call 45; (with_reducible refine (HNUM.out _).mono ?_); rintro e w1 ⟨rfl, hb1⟩; have HB2 := hidden (HB.out.trans (hb1.mono HB.out.size)); obtain ⟨x1, y1, z5, u1, c0, c1, c2, c3, f0, f1, f2, f3⟩ := (HBOX.out.below hb1).parts; clear hb1))
        all_goals exact bodyPost_ret (v := .tuple #[.agg #[.int .u8 2, .string (str []), .int .i64 v, .int .i64 (p : Int)], .int .i64 (q : Int), .int .i64 0]) (by simp [results, Tryd.results21, go_sem, c0, c1, c2, c3, str]) rfl ⟨by rw [HQ.out]; simp [Nat.add_assoc], below_set4 HB2.out⟩
      · have j1 : ¬ ((q : Int) < (l.length : Int)) := by omega
        clear hgo
        go_wp2_with (go_at_call 45; (with_reducible refine (HNUM.out _).mono ?_); rintro e w1 ⟨rfl, hb1⟩; have HB2 := hidden (HB.out.trans (hb1.mono HB.out.size)); obtain ⟨x1, y1, z5, u1, c0, c1, c2, c3, f0, f1, f2, f3⟩ := (HBOX.out.below hb1).parts; clear hb1)
        all_goals exact bodyPost_ret (v := .tuple #[.agg #[.int .u8 2, .string (str []), .int .i64 v, .int .i64 (p : Int)], .int .i64 (q : Int), .int .i64 0]) (by simp [results, Tryd.results21, go_sem, c0, c1, c2, c3, str]) rfl ⟨by rw [HQ.out]; simp [Nat.add_assoc], below_set4 HB2.out⟩

set_option maxRecDepth 100000 in
set_option maxHeartbeats 2000000 in
theorem rtoken_minC (l : List UInt8) (p N : Nat) (w : World) (hp : p < l.length) (hl : l.length ≤ 1048576) (x0 x1 : Int) (hx0 : by8 l p = x0) (hx1 : by8 l (p + 1) = x1) (hn : p + 1 < l.length) (hlet : letB x0 = false) (h45 : x0 = 45) (hd1 : digB x1 = true) (hN : rowN digB (l.drop (p + 1)) = N) (hN1 : 0 < N) (HNUM : Hid (∀ W, Calls Tryd.prog 45 #[.string (str (sgnS true ((l.drop (p + 1)).take N)))] W fun e w' => ∃ v, e = .returned (.tuple #[.int .i64 v, .bool false]) ∧ Below W.heap.size W w')) : Calls Tryd.prog 21 #[.string (str l), .int .i64 (p : Int)] w (RTok p ⟨noTok, 41, 0⟩ w) := by
  have e1 := str_size l
  have g0 := str_get l p (by rw [e1]; exact hp)
  rw [hx0] at g0
  have hpI : (p : Int) < (l.length : Int) := by omega
  have hlI : (l.length : Int) ≤ 1048576 := by omega
  have HL := hidden (rletter_any x0)
  rw [hlet] at HL
  have HD0 := hidden (rdigit_any x0)
  have HD1 := hidden (rdigit_any x1)
  have n1 : (p : Int) + 1 < (l.length : Int) := by omega
  have g1 := str_get l (p + 1) (by rw [e1]; exact hn)
  rw [hx1] at g1
  subst h45
  rw [show digB 45 = false from rfl] at HD0
  rw [hd1] at HD1
  have HNL : Hid (p + 1 + N ≤ l.length) := by have := rowN_le digB (l.drop (p + 1)); rw [hN, List.length_drop] at this; show _ ≤ _; omega
  have HGO := hidden (fun q => row_goes (f := digB) (l := l) (p := p + 1) (q := q) hN)
  have HEN := hidden (fun q => row_ends (f := digB) (l := l) (p := p + 1) (q := q) hN)
  have HCUT : Hid ((str l).extract p (p + 1 + N) = str (sgnS true ((l.drop (p + 1)).take N))) := by
    have := str_cut l p (1 + N)
    rw [← Nat.add_assoc] at this
    show _ = _
    rw [this]
    have e : l.drop p = 45 :: l.drop (p + 1) := by
      rw [List.drop_eq_getElem_cons hp]
      have : (l[p].toNat : Int) = 45 := by
        have h := hx0
        unfold by8 at h
        rw [List.getD_eq_getElem?_getD, List.getElem?_eq_getElem hp] at h
        exact h
      have h2 : l[p] = 45 := UInt8.toNat_inj.mp (by show l[p].toNat = 45; omega)
      rw [h2]
    rw [e, Nat.add_comm 1 N]
    rfl
  have HBX := hidden (box_new w (.int .u8 0) (.string ⟨#[]⟩) (.int .i64 0) (.int .i64 0))
  have HB0 : Hid (Below w.heap.size w (w.alloc (.cells #[.int .u8 0, .string ⟨#[]⟩, .int .i64 0, .int .i64 0] 54))) := (Below.refl _ _).alloc (Nat.le_refl _) _
  obtain ⟨S, hS⟩ : ∃ S, str (sgnS true ((l.drop (p + 1)).take N)) = S := ⟨_, rfl⟩
  rw [hS] at HNUM HCUT
  clear hN hx0 hx1 hlet hS hd1
  go_enter Tryd.func21, Tryd.ntmps21
  go_wp2_with (first
    | (go_at_call 42; (with_reducible refine (HL.out _).mono ?_); rintro e w' ⟨rfl, rfl⟩)
    | (go_at_call 44; (with_reducible refine (HD0.out _).mono ?_); rintro e w' ⟨rfl, rfl⟩)
    | (go_at_call 44; (with_reducible refine (HD1.out _).mono ?_); rintro e w' ⟨rfl, rfl⟩))
  go_loopg [9] (l.length - (p + 1)) (fun gk v wr => ∃ q : Nat, p < q ∧ q ≤ l.length ∧ gk = l.length - q ∧ v = .int .i64 (q : Int) ∧ Below w.heap.size w wr ∧ Box w.heap.size wr ∧ q ≤ p + 1 + N)
  case atStart => exact ⟨p + 1, Nat.lt_succ_self _, hp, rfl, by go_num, HB0.out, HBX.out, by omega⟩
  case round =>
    obtain ⟨q, hpq, hql, rfl, rfl, hb, hbx, hqN⟩ := hrel
    have HB := hidden hb
    clear hb HB0 HBX HL HD0 HD1
    by_cases hgo : q < l.length ∧ digB (by8 l q) = true
    · obtain ⟨hlt, hw⟩ := hgo
      have j1 : (q : Int) < (l.length : Int) := by omega
      have gi := str_get l q (by rw [e1]; exact hlt)
      have HI := hidden (rdigit_any (by8 l q))
      have HN : Hid (q + 1 ≤ p + 1 + N) := HGO.out q (by omega) hqN hlt hw
      have HX := hidden hbx
      rw [hw] at HI
      clear hw hbx
      go_wp2_with (go_at_call 44; (with_reducible refine (HI.out _).mono ?_); rintro e w' ⟨rfl, rfl⟩)
      go_roundg (l.length - (q + 1))
      case measure => omega
      case rel => exact ⟨q + 1, by omega, by omega, rfl, by go_num, HB.out, HX.out, HN.out⟩
    · have hqe : q = p + 1 + N := by
        by_cases hlt : q < l.length
        · exact HEN.out q (by omega) hqN (by cases h : digB (by8 l q) with | true => exact absurd ⟨hlt, h⟩ hgo | false => rfl)
        · have := HNL.out; omega
      have hcut := HCUT.out
      rw [← hqe] at hcut
      have HBOX := hidden hbx
      have HQ := hidden hqe
      have i0 : (0 : Int) ≤ (p : Int) := by omega
      have i1 : (p : Int) ≤ (q : Int) := by omega
      have i2 : (q : Int) ≤ (l.length : Int) := by omega
      clear HCUT hqe hbx
      by_cases hlt : q < l.length
      · have j1 : (q : Int) < (l.length : Int) := by omega
        have gi := str_get l q (by rw [e1]; exact hlt)
        have HI := hidden (rdigit_any (by8 l q))
        have hw' : digB (by8 l q) = false := by cases h : digB (by8 l q) with | true => exact absurd ⟨hlt, h⟩ hgo | false => rfl
        rw [hw'] at HI
        clear hw' hgo
        go_wp2_with (first
          | (go_at_call 44; (with_reducible refine (HI.out _).mono ?_); rintro e w' ⟨rfl, rfl⟩)
          | (go_at_call 45; (with_reducible refine (HNUM.out _).mono ?_); rintro e w1 ⟨v, rfl, hb1⟩; have HB2 := hidden (HB.out.trans (hb1.mono HB.out.size)); obtain ⟨x1, y1, z5, u1, c0, c1, c2, c3, f0, f1, f2, f3⟩ := (HBOX.out.below hb1).parts; clear hb1))
        all_goals exact bodyPost_ret (v := .tuple #[.agg #[.int .u8 0, .string (str []), .int .i64 0, .int .i64 0], .int .i64 0, .int .i64 41]) (by simp [results, Tryd.results21, go_sem, c0, c1, c2, c3, str]) rfl ⟨rfl, below_set4 HB2.out⟩
      · have j1 : ¬ ((q : Int) < (l.length : Int)) := by omega
        clear hgo
        go_wp2_with (go_at_call 45; (with_reducible refine (HNUM.out _).mono ?_); rintro e w1 ⟨v, rfl, hb1⟩; have HB2 := hidden (HB.out.trans (hb1.mono HB.out.size)); obtain ⟨x1, y1, z5, u1, c0, c1, c2, c3, f0, f1, f2, f3⟩ := (HBOX.out.below hb1).parts; clear hb1)
        all_goals exact bodyPost_ret (v := .tuple #[.agg #[.int .u8 0, .string (str []), .int .i64 0, .int .i64 0], .int .i64 0, .int .i64 41]) (by simp [results, Tryd.results21, go_sem, c0, c1, c2, c3, str]) rfl ⟨rfl, below_set4 HB2.out⟩
theorem rnum_said {neg : Bool} {ds : List UInt8} (hd : allD ds) (h0 : 0 < ds.length) (hB : ds.length ≤ 1048576) :
    (∃ v, numO neg ds = some v ∧ Hid (∀ W, Calls Tryd.prog 45 #[.string (str (sgnS neg ds))] W fun e w' => e = .returned (.tuple #[.int .i64 v, .bool true]) ∧ Below W.heap.size W w')) ∨
    (numO neg ds = none ∧ Hid (∀ W, Calls Tryd.prog 45 #[.string (str (sgnS neg ds))] W fun e w' => ∃ v, e = .returned (.tuple #[.int .i64 v, .bool false]) ∧ Below W.heap.size W w')) := by
  cases h : numO neg ds with
  | some v =>
    refine Or.inl ⟨v, rfl, fun W => (rnumber_any neg ds W hd h0 hB).mono ?_⟩
    rintro e w' ⟨x, b, he, h2, hb⟩
    rw [h] at h2
    rcases h2 with ⟨h2, rfl⟩ | ⟨h2, -⟩
    · cases h2
      exact ⟨he, hb⟩
    · cases h2
  | none =>
    refine Or.inr ⟨rfl, fun W => (rnumber_any neg ds W hd h0 hB).mono ?_⟩
    rintro e w' ⟨x, b, he, h2, hb⟩
    rw [h] at h2
    rcases h2 with ⟨h2, -⟩ | ⟨-, rfl⟩
    · cases h2
    · exact ⟨x, he, hb⟩
/-- The document's token is the plain one. -/
theorem rtoken_any (l : List UInt8) (p : Nat) (w : World) (hp : p < l.length) (hl : l.length ≤ 1048576) : Calls Tryd.prog 21 #[.string (str l), .int .i64 (p : Int)] w (RTok p (tokO (l.drop p)) w) := by
  have e0 : by8 (l.drop p) 0 = by8 l p := by8_from l p 0
  have e1 : by8 (l.drop p) 1 = by8 l (p + 1) := by8_from l p 1
  unfold tokO
  rw [e0, e1]
  by_cases h1 : letB (by8 l p) = true
  · rw [if_pos h1]
    have hpos : 0 < rowN wordB (l.drop p) := row_pos0 (by rw [e0]; exact letB_word h1) (by rw [e0]; exact letB_ne h1)
    by_cases hn : p + 1 < l.length
    · exact rtoken_wordA l p _ w hp hl _ rfl h1 rfl hpos hn
    · exact rtoken_wordB l p _ w hp hl _ rfl h1 rfl hpos hn
  rw [if_neg h1]
  have h1' : letB (by8 l p) = false := by simpa using h1
  by_cases hd0 : digB (by8 l p) = true
  · rw [hd0, Bool.true_or, if_pos rfl]
    have hpos : 0 < rowN digB (l.drop p) := row_pos0 (by rw [e0]; exact hd0) (by rw [e0]; exact digB_ne0 hd0)
    have hne : ¬ (by8 (l.drop p) 0 = 45) := by rw [e0]; intro e; rw [e] at hd0; cases hd0
    have EN : numberO (l.drop p) = match numO false ((l.drop p).take (rowN digB (l.drop p))) with
      | none => ⟨noTok, 41, 0⟩
      | some v => ⟨⟨2, [], v, 0⟩, 0, rowN digB (l.drop p)⟩ := by
      unfold numberO
      simp only [hne, decide_false, Bool.false_eq_true, if_false, Nat.zero_add]
      rfl
    rw [EN]
    have hds : ((l.drop p).take (rowN digB (l.drop p))).length = rowN digB (l.drop p) := len_take_row _ _
    have hrl : rowN digB (l.drop p) ≤ 1048576 := by have := rowN_le digB (l.drop p); rw [List.length_drop] at this; omega
    rcases rnum_said (neg := false) (allD_row (l.drop p)) (by rw [hds]; exact hpos) (by rw [hds]; exact hrl) with ⟨v, hv, HN⟩ | ⟨hv, HN⟩
    · rw [hv]
      by_cases hn : p + 1 < l.length
      · exact rtoken_numA l p _ w hp hl _ _ rfl rfl hn h1' hd0 rfl hpos v HN
      · exact rtoken_numB l p _ w hp hl _ _ rfl rfl hn h1' hd0 rfl hpos v HN
    · rw [hv]
      by_cases hn : p + 1 < l.length
      · exact rtoken_numC l p _ w hp hl _ _ rfl rfl hn h1' hd0 rfl hpos HN
      · exact rtoken_numD l p _ w hp hl _ _ rfl rfl hn h1' hd0 rfl hpos HN
  have hd0' : digB (by8 l p) = false := by simpa using hd0
  rw [hd0', Bool.false_or]
  by_cases h45 : by8 l p = 45
  · rw [decide_eq_true h45, Bool.true_and, Bool.true_and]
    by_cases hd1 : digB (by8 l (p + 1)) = true
    · rw [if_pos hd1]
      have hn : p + 1 < l.length := by8_pos (digB_ne0 hd1)
      have e2 : by8 (l.drop (p + 1)) 0 = by8 l (p + 1) := by8_from l (p + 1) 0
      have hpos : 0 < rowN digB (l.drop (p + 1)) := row_pos0 (by rw [e2]; exact hd1) (by rw [e2]; exact digB_ne0 hd1)
      have he : by8 (l.drop p) 0 = 45 := by rw [e0]; exact h45
      have EN : numberO (l.drop p) = match numO true ((l.drop (p + 1)).take (rowN digB (l.drop (p + 1)))) with
        | none => ⟨noTok, 41, 0⟩
        | some v => ⟨⟨2, [], v, 0⟩, 0, 1 + rowN digB (l.drop (p + 1))⟩ := by
        unfold numberO
        simp only [he, decide_true, if_true, List.drop_drop]
        rfl
      rw [EN]
      have hds : ((l.drop (p + 1)).take (rowN digB (l.drop (p + 1)))).length = rowN digB (l.drop (p + 1)) := len_take_row _ _
      have hrl : rowN digB (l.drop (p + 1)) ≤ 1048576 := by have := rowN_le digB (l.drop (p + 1)); rw [List.length_drop] at this; omega
      rcases rnum_said (neg := true) (allD_row (l.drop (p + 1))) (by rw [hds]; exact hpos) (by rw [hds]; exact hrl) with ⟨v, hv, HN⟩ | ⟨hv, HN⟩
      · rw [hv]
        exact rtoken_minA l p _ w hp hl _ _ rfl rfl hn h1' h45 hd1 rfl hpos v HN
      · rw [hv]
        exact rtoken_minC l p _ w hp hl _ _ rfl rfl hn h1' h45 hd1 rfl hpos HN
    · rw [if_neg hd1]
      have hd1' : digB (by8 l (p + 1)) = false := by simpa using hd1
      have hm : markB (by8 l p) = false := by rw [h45]; rfl
      rw [hm, if_neg (by decide)]
      by_cases h62 : by8 l (p + 1) = 62
      · rw [decide_eq_true h62, if_pos rfl]
        exact rtoken_arrow l p w hp hl _ _ rfl rfl (by8_pos (by rw [h62]; decide)) h1' h45 h62
      · rw [decide_eq_false h62, if_neg (by decide)]
        by_cases hn : p + 1 < l.length
        · exact rtoken_wrongA l p w hp hl _ _ rfl rfl hn h1' h45 h62 hd1'
        · exact rtoken_wrongB l p w hp hl _ _ rfl rfl hn h1' h45 h62 hd1'
  · rw [decide_eq_false h45, Bool.false_and, Bool.false_and, if_neg (by decide)]
    by_cases hm : markB (by8 l p) = true
    · rw [if_pos hm]
      by_cases hn : p + 1 < l.length
      · exact rtoken_markA l p w hp hl _ _ rfl rfl hn h1' hd0' h45 hm
      · exact rtoken_markB l p w hp hl _ _ rfl rfl hn h1' hd0' h45 hm
    · have hm' : markB (by8 l p) = false := by simpa using hm
      rw [if_neg hm, if_neg (by decide)]
      by_cases hn : p + 1 < l.length
      · exact rtoken_wrongC l p w hp hl _ _ rfl rfl hn h1' hd0' h45 hm'
      · exact rtoken_wrongD l p w hp hl _ _ rfl rfl hn h1' hd0' h45 hm'
theorem allL_skip {p k : Nat} {l : List UInt8} (h : skipN false l = k + skipN false (l.drop k)) : allL p l = allL (p + k) (l.drop k) := by
  have e : (l.drop k).drop (skipN false (l.drop k)) = l.drop (skipN false l) := by rw [List.drop_drop, ← h]
  have e3 : p + k + skipN false (l.drop k) = p + skipN false l := by omega
  by_cases h1 : l.drop (skipN false l) = []
  · rw [allL_end h1, allL_end (by rw [e]; exact h1), e3]
  · by_cases h2 : (tokO (l.drop (skipN false l))).err = 0
    · rw [allL_tok h1 h2, allL_tok (p := p + k) (l := l.drop k) (by rw [e]; exact h1) (by rw [e]; exact h2), e, e3, List.drop_drop]
      have e4 : k + (skipN false (l.drop k) + (tokO (l.drop (skipN false l))).n) = skipN false l + (tokO (l.drop (skipN false l))).n := by omega
      rw [e4]
    · rw [allL_err h1 h2, allL_err (p := p + k) (l := l.drop k) (by rw [e]; exact h1) (by rw [e]; exact h2), e, e3]
theorem skip_one {l : List UInt8} (hl : 0 < l.length) (h : blankB (by8 l 0) = true) : skipN false l = 1 + skipN false (l.drop 1) := by
  cases l with
  | nil => simp at hl
  | cons c r =>
    rw [by8_zero] at h
    rw [skipN, if_pos h]
    simp
    omega
/-- The state of the document's All between two tokens. -/
structure RSt (w : World) (v : Value) (ts : List Tok) (wr : World) : Prop where
  owns : Toks (w.heap.size + 1) wr v ts
  fault : wr.heap[w.heap.size]? = some (.cells #[.int .i64 0, .int .i64 0] 25 (0, 0))
  bel : Below w.heap.size w wr
theorem RSt.below {w v ts wr w'} (h : RSt w v ts wr) (hb : Below wr.heap.size wr w') : RSt w v ts w' where
  owns := h.owns.below hb
  fault := (hb.block _ (Array.getElem?_eq_some_iff.1 h.fault).1).trans h.fault
  bel := h.bel.trans (hb.mono h.bel.size)
theorem RSt.app {w v ts wr v' w' t} (h : RSt w v ts wr) (ho : w'.ownsRow (w.heap.size + 1) 54 4 v' (ts.length + 1) (ts.flatMap tokC ++ tokC t)) (hg : wr.grownBy w' v.ownBlock) : RSt w v' (ts ++ [t]) w' where
  owns := by unfold Toks; rw [List.flatMap_append, List.length_append]; simpa [List.flatMap] using ho
  fault := (hg.block _ (Array.getElem?_eq_some_iff.1 h.fault).1 (fun e => h.owns.ne (k := w.heap.size) (by omega) e.symm)).trans h.fault
  bel := below_grownO h.bel hg (fun k e => by
    rcases Nat.lt_or_ge k (w.heap.size + 1) with h1 | h1
    · exact absurd e (h.owns.ne h1)
    · omega) h.bel.size
theorem tok_news1 (w : World) (c0 c1 c2 c3 : Value) (t : TypeId) : ∀ j u, [c0, c1, c2, c3][j]? = some u → (w.alloc (.cells #[c0, c1, c2, c3] t)).cell? ((⟨w.heap.size, 0, none⟩ : Addr).add j) = some u := by
  intro j u hu
  match j, hu with
  | 0, hu => simp at hu; subst hu; simp [Addr.add]
  | 1, hu => simp at hu; subst hu; simp [Addr.add]
  | 2, hu => simp at hu; subst hu; simp [Addr.add]
  | 3, hu => simp at hu; subst hu; simp [Addr.add]
theorem rall_long (l : List UInt8) (w : World) (hl : 1048576 < l.length) : Calls Tryd.prog 8 #[.string (str l)] w (AllEnd w l) := by
  have e1 := str_size l
  have hg : textG l = ⟨[], 2, 1048576⟩ := by unfold textG; rw [if_pos hl]
  have i1 : (1048576 : Int) < (l.length : Int) := by omega
  unfold AllEnd
  rw [hg]
  go_enter Tryd.func8, Tryd.ntmps8
  go_wp2
  exact bodyPost_ret (v := .tuple #[.slice none 0 0, .agg #[.int .i64 2, .int .i64 1048576]]) (by simp [results, Tryd.results8, go_sem]) rfl ⟨_, rfl, World.ownsRow_nil _ _ _ _, (Below.refl _ _).alloc (Nat.le_refl _) _⟩

set_option maxRecDepth 100000 in
set_option maxHeartbeats 4000000 in
theorem rall_short (l : List UInt8) (w : World) (hl : l.length ≤ 1048576) : Calls Tryd.prog 8 #[.string (str l)] w (AllEnd w l) := by
  have e1 := str_size l
  have i1 : decide ((1048576 : Int) < (l.length : Int)) = false := decide_eq_false (by omega)
  have i2 : ¬ ((1048576 : Int) < (l.length : Int)) := by omega
  have hlI : (l.length : Int) ≤ 1048576 := by omega
  have HG : Hid (textG l = allL 0 l) := by show textG l = _; unfold textG; rw [if_neg (by omega)]
  have HS0 : Hid (RSt w (.slice none 0 0) [] (w.alloc (.cells #[.int .i64 0, .int .i64 0] 25))) := by
    have hb : Below w.heap.size w (w.alloc (.cells #[.int .i64 0, .int .i64 0] 25)) := (Below.refl _ _).alloc (Nat.le_refl _) _
    refine ⟨World.ownsRow_nil _ _ _ _, ?_, hb⟩
    show (w.heap.push _)[w.heap.size]? = _
    rw [Array.getElem?_push, if_pos rfl]
  have HA0 : Hid (allL 0 l = (allL 0 (l.drop 0)).app []) := by show _ = _; rw [List.drop_zero, app_nil _ (fun h => allL_zero h)]
  go_enter Tryd.func8, Tryd.ntmps8
  go_wp2
  go_loopg [4, 5] l.length (fun gk v a wr => ∃ p ts, p ≤ l.length ∧ gk = l.length - p ∧ a = .int .i64 ((p : Nat) : Int) ∧ RSt w v ts wr ∧ ts.length ≤ p ∧ allL 0 l = (allL p (l.drop p)).app ts)
  case atStart => exact ⟨0, [], Nat.zero_le _, by omega, rfl, HS0.out, Nat.le_refl _, HA0.out⟩
  case round =>
    clear HS0 HA0
    obtain ⟨p, ts, hp, rfl, rfl, hst, hts, hall⟩ := hrel
    have HST := hidden hst
    have HALL := hidden hall
    clear hst hall
    by_cases hend : p = l.length
    · subst hend
      have j1 : ¬ ((l.length : Int) < (l.length : Int)) := by omega
      have HALL2 : Hid (textG l = ⟨ts ++ [⟨0, [], 0, (l.length : Int)⟩], 0, 0⟩) := by
        show _ = _
        have h3 := allL_end (p := l.length) (l := l.drop l.length) (by simp)
        rw [HG.out, HALL.out, h3, List.drop_length]
        rfl
      obtain ⟨i0, hi, hz0, hz1, hz2⟩ := info_parts Tryd.infoTK
      have HI := hidden hi
      have HI0 := hidden hz0
      have HI1 := hidden hz1
      have HI2 := hidden hz2
      clear hi hz0 hz1 hz2
      go_wp2_with (at_builtin; refine wpList_append_own _ rfl _ _ 22 rfl (w.heap.size + 1) 54 i0 (.agg #[.int .u8 0, .string ⟨#[]⟩, .int .i64 0, .int .i64 0]) 4 40 Tryd.underlying22 HI.out HI0.out HI1.out HI2.out rfl (by decide) _ ts.length (ts.flatMap tokC) rfl (HST.out.below ((Below.refl _ _).alloc (Nat.le_refl _) _)).owns ⟨wr.heap.size, 0, none⟩ 1 1 (tokC ⟨0, [], 0, (l.length : Int)⟩) rfl rfl (tok_news1 wr _ _ _ _ _) (tok_one _) (by unfold maxLen; omega) (by omega) (by have h1 := HST.out.bel.size; have h2 := (Array.getElem?_eq_some_iff.1 HST.out.fault).1; simp; omega) ?_; intro v' w8 hown hgrow _; have S8 : Hid (RSt w v' (ts ++ [⟨0, [], 0, (l.length : Int)⟩]) w8) := (HST.out.below ((Below.refl _ _).alloc (Nat.le_refl _) _)).app hown hgrow; obtain ⟨k0, k1, g0, g1, k2⟩ := two_cells S8.out.fault; clear hown hgrow)
      exact bodyPost_ret (v := .tuple #[v', .agg #[.int .i64 0, .int .i64 0]]) (by simp [results, Tryd.results8, go_sem, k0, k1]) rfl (by
        refine ⟨v', by rw [HALL2.out], ?_, (S8.out.bel.setCell (p := ⟨w.heap.size, 0, none⟩) (Nat.le_refl _) _).setCell (p := ⟨w.heap.size, 1, none⟩) (Nat.le_refl _) _⟩
        rw [HALL2.out]
        exact ownsRow_setCell_low (ownsRow_setCell_low (S8.out.owns.mono (by omega)) S8.out.owns (show w.heap.size < w.heap.size + 1 by omega)) S8.out.owns (show w.heap.size < w.heap.size + 1 by omega))
    · have hlt : p < l.length := by omega
      have j1 : (p : Int) < (l.length : Int) := by omega
      have gi := str_get l p (by rw [e1]; exact hlt)
      have e0 : by8 (l.drop p) 0 = by8 l p := by8_from l p 0
      have hdl : 0 < (l.drop p).length := by rw [List.length_drop]; omega
      by_cases hbl : blankB (by8 l p) = true
      · have HALL2 : Hid (allL 0 l = (allL (p + 1) (l.drop (p + 1))).app ts) := by
          show _ = _
          rw [HALL.out, allL_skip (skip_one hdl (by rw [e0]; exact hbl)), List.drop_drop]
        have hx : by8 l p = 32 ∨ by8 l p = 9 ∨ by8 l p = 13 ∨ by8 l p = 10 := by
          unfold blankB at hbl
          simp only [Bool.or_eq_true, decide_eq_true_eq] at hbl
          omega
        clear HALL hbl e0 hdl
        generalize by8 l p = x0 at *
        rcases hx with rfl | rfl | rfl | rfl
        all_goals
          go_wp2
          go_roundg (l.length - (p + 1))
          case measure => omega
          case rel => exact ⟨p + 1, ts, by omega, rfl, by go_num, HST.out, by omega, HALL2.out⟩
      · have hbf : blankB (by8 l p) = false := by simpa using hbl
        have hns : by8 l p ≠ 32 ∧ by8 l p ≠ 9 ∧ by8 l p ≠ 13 ∧ by8 l p ≠ 10 := by
          refine ⟨?_, ?_, ?_, ?_⟩ <;> (intro e; rw [e] at hbf; cases hbf)
        by_cases h35 : by8 l p = 35
        · obtain ⟨R, hR⟩ : ∃ R, rowN remB (l.drop p) = R := ⟨_, rfl⟩
          have HALL2 : Hid (allL 0 l = (allL (p + R) (l.drop (p + R))).app ts) := by
            show _ = _
            have h3 := skip_hash (l := l.drop p) (by rw [e0]; exact h35)
            rw [hR] at h3
            rw [HALL.out, allL_skip h3, List.drop_drop]
          have hR0 : 0 < R := by rw [← hR]; exact row_pos0 (by rw [e0, h35]; rfl) (by rw [e0, h35]; decide)
          have HRL : Hid (p + R ≤ l.length) := by have := rowN_le remB (l.drop p); rw [hR, List.length_drop] at this; show _ ≤ _; omega
          have HGO := hidden (fun q => row_goes (f := remB) (l := l) (p := p) (q := q) hR)
          have HEN := hidden (fun q => row_ends (f := remB) (l := l) (p := p) (q := q) hR)
          rw [h35] at gi
          clear hR HALL hbl hbf hns h35 e0 hdl
          go_wp2
          go_loopg [5] (l.length - p) (fun gm a wr' => ∃ q : Nat, p ≤ q ∧ q ≤ p + R ∧ gm = l.length - q ∧ a = .int .i64 (q : Int) ∧ wr' = wr)
          case atStart => exact ⟨p, Nat.le_refl _, by omega, rfl, rfl, rfl⟩
          case round =>
            obtain ⟨q, hpq, hqR, rfl, rfl, rfl⟩ := hrel
            have hRL := HRL.out
            by_cases hgo : q < l.length ∧ remB (by8 l q) = true
            · obtain ⟨hq, hw⟩ := hgo
              have j2 : (q : Int) < (l.length : Int) := by omega
              have gq := str_get l q (by rw [e1]; exact hq)
              have HN : Hid (q + 1 ≤ p + R) := HGO.out q hpq hqR hq hw
              have hne : by8 l q ≠ 10 := by intro e; rw [e] at hw; cases hw
              have hne2 : (by8 l q == 10) = false := by simpa using hne
              clear hw
              generalize by8 l q = y at *
              go_wp2
              go_roundg (l.length - (q + 1))
              case measure => omega
              case rel => exact ⟨q + 1, by omega, HN.out, rfl, by go_num, rfl⟩
            · have hqe : q = p + R := by
                by_cases hq : q < l.length
                · exact HEN.out q hpq hqR (by cases h : remB (by8 l q) with | true => exact absurd ⟨hq, h⟩ hgo | false => rfl)
                · omega
              have HQ := hidden hqe
              by_cases hq : q < l.length
              · have j2 : (q : Int) < (l.length : Int) := by omega
                have gq := str_get l q (by rw [e1]; exact hq)
                have hw' : remB (by8 l q) = false := by cases h : remB (by8 l q) with | true => exact absurd ⟨hq, h⟩ hgo | false => rfl
                have h10 : by8 l q = 10 := by
                  unfold remB at hw'
                  simpa using hw'
                rw [h10] at gq
                clear hw' hgo h10 hqe
                go_wp2
                go_roundg (l.length - (p + R))
                case measure => omega
                case rel => exact ⟨p + R, ts, HRL.out, rfl, by rw [HQ.out], HST.out, by omega, HALL2.out⟩
              · have j2 : ¬ ((q : Int) < (l.length : Int)) := by omega
                clear hgo hqe
                go_wp2
                go_roundg (l.length - (p + R))
                case measure => omega
                case rel => exact ⟨p + R, ts, HRL.out, rfl, by rw [HQ.out], HST.out, by omega, HALL2.out⟩
        · obtain ⟨n1, n2, n3, n4⟩ := hns
          have b1 : (by8 l p == 32) = false := by simpa using n1
          have b2 : (by8 l p == 9) = false := by simpa using n2
          have b3 : (by8 l p == 13) = false := by simpa using n3
          have b4 : (by8 l p == 10) = false := by simpa using n4
          have b5 : (by8 l p == 35) = false := by simpa using h35
          have hsk : skipN false (l.drop p) = 0 := skip_none (by rw [e0]; exact hbf) (by rw [e0]; exact h35)
          have e2 : (l.drop p).drop (skipN false (l.drop p)) = l.drop p := by rw [hsk, List.drop_zero]
          have hne : (l.drop p).drop (skipN false (l.drop p)) ≠ [] := by rw [e2]; intro e; rw [e] at hdl; simp at hdl
          have HZ : Hid (∀ W, Calls Tryd.prog 21 #[.string (str l), .int .i64 (p : Int)] W (RTok p (tokO (l.drop p)) W)) := fun W => rtoken_any l p W hlt hl
          clear hbl hbf hdl e0
          by_cases herr : (tokO (l.drop p)).err = 0
          · obtain ⟨hn, hn2, -⟩ := tok_some herr
            rw [List.length_drop] at hn2
            have HALL2 : Hid (allL 0 l = (allL (p + (tokO (l.drop p)).n) (l.drop (p + (tokO (l.drop p)).n))).app (ts ++ [{ (tokO (l.drop p)).tok with place := (p : Int) }])) := by
              show _ = _
              have h3 := allL_tok (p := p) hne (by rw [e2]; exact herr)
              rw [e2, hsk, Nat.add_zero, Nat.zero_add, List.drop_drop] at h3
              rw [HALL.out, h3, app_cons]
            clear HALL hne e2 hsk
            generalize by8 l p = x0 at *
            generalize tokO (l.drop p) = o at *
            obtain ⟨⟨so, tx, nm, pl⟩, er, n⟩ := o
            simp only at herr hn hn2 HALL2
            subst herr
            have HZ2 : Hid (∀ W, Calls Tryd.prog 21 #[.string (str l), .int .i64 (p : Int)] W fun e w' => e = .returned (.tuple #[.agg #[.int .u8 so, .string (str tx), .int .i64 nm, .int .i64 (p : Int)], .int .i64 ((p + n : Nat) : Int), .int .i64 0]) ∧ Below W.heap.size W w') := fun W => HZ.out W
            clear HZ
            obtain ⟨i0, hi, hz0, hz1, hz2⟩ := info_parts Tryd.infoTK
            have HI := hidden hi
            have HI0 := hidden hz0
            have HI1 := hidden hz1
            have HI2 := hidden hz2
            clear hi hz0 hz1 hz2
            obtain ⟨pn, hpn⟩ : ∃ pn : Nat, p + n = pn := ⟨_, rfl⟩
            rw [hpn] at HZ2 HALL2
            go_wp2_with (first
              | (at_builtin; refine wpList_append_own _ rfl _ _ 22 rfl (w.heap.size + 1) 54 i0 (.agg #[.int .u8 0, .string ⟨#[]⟩, .int .i64 0, .int .i64 0]) 4 40 Tryd.underlying22 HI.out HI0.out HI1.out HI2.out rfl (by decide) _ ts.length (ts.flatMap tokC) rfl (S5.out.below (below_two w5 _ _)).owns ⟨w5.heap.size + 1, 0, none⟩ 1 1 (tokC ⟨so, tx, nm, (p : Int)⟩) rfl rfl (tok_news w5 _ _ _ _ _ _) (tok_one _) (by unfold maxLen; omega) (by omega) (by have h1 := S5.out.bel.size; have h2 := (Array.getElem?_eq_some_iff.1 S5.out.fault).1; simp; omega) ?_; intro v' w8 hown hgrow _; have S8 : Hid (RSt w v' (ts ++ [⟨so, tx, nm, (p : Int)⟩]) w8) := (S5.out.below (below_two w5 _ _)).app hown hgrow; clear hown hgrow)
              | (go_at_call 21; (with_reducible refine (HZ2.out _).mono ?_); rintro e w5 ⟨rfl, hb5⟩; have S5 := hidden (HST.out.below hb5); clear hb5))
            go_roundg (l.length - pn)
            case measure => omega
            case rel => exact ⟨pn, _, by omega, rfl, rfl, S8.out, by simp; omega, HALL2.out⟩
          · have HALL2 : Hid (textG l = ⟨[], (tokO (l.drop p)).err, (p : Int)⟩) := by
              show _ = _
              have h3 := allL_err (p := p) hne (by rw [e2]; exact herr)
              rw [e2, hsk, Nat.add_zero] at h3
              rw [HG.out, HALL.out, h3]
              unfold Got.app
              rw [if_neg herr]
            clear HALL hne e2 hsk
            generalize by8 l p = x0 at *
            generalize tokO (l.drop p) = o at *
            obtain ⟨⟨so, tx, nm, pl⟩, er, n⟩ := o
            simp only at herr HALL2
            have HZ2 : Hid (∀ W, Calls Tryd.prog 21 #[.string (str l), .int .i64 (p : Int)] W fun e w' => e = .returned (.tuple #[.agg #[.int .u8 so, .string (str tx), .int .i64 nm, .int .i64 0], .int .i64 0, .int .i64 er]) ∧ Below W.heap.size W w') := fun W => (HZ.out W).mono fun e w' h => by
              unfold RTok at h
              simp only [herr, if_false] at h
              exact h
            clear HZ
            have herr' : (er == 0) = false := by simpa using herr
            have herr2 : (er != 0) = true := by simpa using herr
            go_wp2_with (go_at_call 21; (with_reducible refine (HZ2.out _).mono ?_); rintro e w5 ⟨rfl, hb5⟩; have S5 := hidden (HST.out.below hb5); obtain ⟨k0, k1, g0, g1, k2⟩ := two_cells (S5.out.below ((Below.refl w5.heap.size w5).alloc (Nat.le_refl _) (.cells #[.int .u8 so, .string (str tx), .int .i64 nm, .int .i64 0] 54))).fault; clear hb5)
            exact bodyPost_ret (v := .tuple #[.slice none 0 0, .agg #[.int .i64 er, .int .i64 (p : Int)]]) (by simp [results, Tryd.results8, go_sem, k0, k1]) rfl (by
              refine ⟨_, by rw [HALL2.out], ?_, ?_⟩
              · rw [HALL2.out]; exact World.ownsRow_nil _ _ _ _
              · exact ((S5.out.bel.alloc S5.out.bel.size _).setCell (p := ⟨w.heap.size, 0, none⟩) (Nat.le_refl _) _).setCell (p := ⟨w.heap.size, 1, none⟩) (Nat.le_refl _) _)
theorem rall_any (l : List UInt8) (w : World) : Calls Tryd.prog 8 #[.string (str l)] w (AllEnd w l) := by
  by_cases h : 1048576 < l.length
  · exact rall_long l w h
  · exact rall_short l w (by omega)
end Go.Proofs.YtpmooflijlkppaaDoor

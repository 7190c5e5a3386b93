/- Texts of one chain, laid one behind the other. -/
import Derived.Test.YtdifaobfomfieaaPartWitnessConfirms20
import Derived.Test.YtdifaobfomfieaaPartWitnessConfirms10
import Derived.Test.YtdifaobfomfieaaPartWitnessConfirms1
import Derived.Lib.Mul64
import Derived.Laws.Bits64b
import Derived.Deep.SlicePairs
import Derived.Test.YtdifaobfomfieaaPartWitnessConfirms7
import Derived.Test.YtdifaobfomfieaaPartWitnessConfirms3
namespace Go.Proofs.Ytdifaobfomfieaa
open Go.ChangeShapes Go.WideShapes Go.ChangeAt Go.RowKit
/-- A number of any length lies as it did behind stores into a variable of its kind. -/
theorem Wh.store2 {w : World} {neg : Bool} {a : Option Addr} {len cap : Nat} {ds : List Int} {n : Int} {b : Nat} {x y : Value} (h : Wh w neg a len cap ds n) (v : Var2 w b x y) (hx : ∀ k, x ≠ .int .i64 k) (hy : ∀ k, y ≠ .int .i64 k) (u1 u2 : Value) :
    Wh ((w.setCell ⟨b, 0, none⟩ u1).setCell ⟨b, 1, none⟩ u2) neg a len cap ds n := by
  have k1 : (w.setCell ⟨b, 0, none⟩ u1).cell? ⟨b, 1, none⟩ = some y := by rw [World.cell?_setCell_other _ _ _ _ (by simp)]; exact v.c1
  have hat := (h.row.lies.store (v := u1) v.c0 hx).store (v := u2) k1 hy
  exact ⟨⟨h.row.size, hat, h.row.none, h.row.room, h.row.short, h.row.dig⟩, h.norm, h.worth, h.sign⟩
/-- A value that is this number of any length, in this world; a variable that was laid since. -/
def IsWh (w : World) (x : Int) (bound : Nat) (v : Value) : Prop := ∃ m a l p ds, v = .agg #[.bool m, .slice a l p] ∧ Wh w m a l p ds x ∧ l ≤ bound
def IsNew (B : Nat) (w : World) (x y : Value) (v : Value) : Prop := ∃ b, v = .pointer (some ⟨b, 0, none⟩) ∧ Var2 w b x y ∧ B ≤ b
theorem IsWh.later {w w' : World} {x : Int} {n : Nat} {v : Value} (h : IsWh w x n v) (hb : Below w.heap.size w w') : IsWh w' x n v := by
  obtain ⟨m, a, l, p, ds, e, hw, hl⟩ := h
  exact ⟨m, a, l, p, ds, e, hw.below hb, hl⟩
theorem IsNew.later {B : Nat} {w w' : World} {x y v : Value} (h : IsNew B w x y v) (hb : Below w.heap.size w w') : IsNew B w' x y v := by
  obtain ⟨b, e, hv, hB⟩ := h
  exact ⟨b, e, hv.later hb hv.lt, hB⟩
theorem of_said {x : Int} {W : World} (h : Calls Try.prog 31 #[.int .i64 x] W (MadeWh W x 3)) : Calls Try.prog 31 #[.int .i64 x] W fun e w' => ∃ v, e = .returned v ∧ Below W.heap.size W w' ∧ IsWh w' x 3 v :=
  h.mono fun _ _ ⟨m, a, l, p, ds, he, hw, hb, hl⟩ => ⟨_, he, hb, m, a, l, p, ds, rfl, hw, hl⟩
theorem times_said {x y : Int} {W : World} {u v : Value} {n m : Nat} (h1 : IsWh W x n u) (h2 : IsWh W y m v) (hs : n + m < 1000000000) : Calls Try.prog 30 #[u, v] W fun e w' => ∃ r, e = .returned r ∧ Below W.heap.size W w' ∧ IsWh w' (x * y) (n + m) r := by
  obtain ⟨m1, a1, l1, p1, d1, rfl, w1, b1⟩ := h1
  obtain ⟨m2, a2, l2, p2, d2, rfl, w2, b2⟩ := h2
  refine (times_any m1 m2 a1 a2 l1 l2 p1 p2 d1 d2 x y W w1 w2 (by omega)).mono ?_
  rintro e w' ⟨m, a, l, p, ds, he, hw, hb, hl⟩
  exact ⟨_, he, hb, m, a, l, p, ds, rfl, hw, by omega⟩
def prodI : List Int → Int
  | [] => 1
  | x :: xs => x * prodI xs
set_option maxRecDepth 100000 in
set_option maxHeartbeats 2000000 in
theorem product_wh (a : Option Addr) (zs : List Int) (len cap : Nat) (w : World) (hl : zs.length = len) (hm : len ≤ 100000) (hz : InR zs) (h : At w a zs) :
    Calls Try.prog 29 #[.slice a len cap] w (MadeWh w (prodI zs) (3 + 3 * len)) := by
  have O1 : Hid (∀ W, Calls Try.prog 31 #[.int .i64 1] W (MadeWh W 1 3)) := fun W => of_any 1 W (by decide)
  have K0 := var2_new w (.bool false) (.slice none 0 0) 57
  have B0 : Below w.heap.size w (w.alloc (.cells #[.bool false, .slice none 0 0] 57)) := (Below.refl _ _).alloc (Nat.le_refl _) _
  have HK0 : Hid (Var2 (w.alloc (.cells #[.bool false, .slice none 0 0] 57)) w.heap.size (.bool false) (.slice none 0 0) ∧ Below w.heap.size w (w.alloc (.cells #[.bool false, .slice none 0 0] 57))) := ⟨K0, B0⟩
  have HAT : Hid (At w a zs) := h
  clear h K0 B0
  go_enter Try.func29, Try.ntmps29
  go_wp2_with (go_at_call 31; refine (O1.out _).mono ?_; rintro e w1 ⟨m1, ad1, l1, p1, ds1, rfl, hwh1, hb1, hl1⟩; have K0 := HK0.out.1; have K1 := K0.later hb1 K0.lt; have B1 := HK0.out.2.trans (hb1.mono HK0.out.2.size))
  have V2 := K1.alloc (.cells #[.bool m1, .slice ad1 l1 p1] 57)
  have V3 := var2_new w1 (.bool m1) (.slice ad1 l1 p1) 57
  have B2 : Below w.heap.size w (w1.alloc (.cells #[.bool m1, .slice ad1 l1 p1] 57)) := B1.alloc B1.size _
  have W2 := hwh1.below ((Below.refl w1.heap.size w1).alloc (Nat.le_refl _) (.cells #[.bool m1, .slice ad1 l1 p1] 57))
  have hlt0 : w.heap.size < w1.heap.size := K1.lt
  have HLT : Hid (w.heap.size < w1.heap.size) := hlt0
  clear K0 K1 B1 hb1 hwh1 HK0
  go_loopg [4] len (fun gk i wr => ∃ (k : Nat) (x : Int) (m : Bool) (ad : Option Addr) (l p : Nat) (ds : List Int), k ≤ len ∧ gk = len - k ∧ i = .int .i64 k ∧ x * prodI (zs.drop k) = prodI zs ∧ Below w.heap.size w wr ∧ Var2 wr w.heap.size (.bool false) (.slice none 0 0) ∧ Var2 wr w1.heap.size (.bool m) (.slice ad l p) ∧ Wh wr m ad l p ds x ∧ l ≤ 3 + 3 * k)
  case atStart => exact ⟨0, 1, m1, ad1, l1, p1, ds1, Nat.zero_le _, rfl, rfl, Int.one_mul _, B2, V2, V3, W2, hl1⟩
  case round =>
    clear V2 V3 B2 W2 hlt0
    obtain ⟨k, x, m, ad, l, p, ds, hk, rfl, rfl, hs, hbel, v2, v3, hwh, hlb⟩ := hrel
    have HS : Hid (x * prodI (zs.drop k) = prodI zs) := hs
    clear hs
    by_cases hlt : k < len
    · obtain ⟨b, off, rfl, hc⟩ := HAT.out.resolve_left (fun e => by rw [e] at hl; simp at hl; omega)
      have q1 := hc k (by omega)
      have H1 : Hid (∀ W', Below wr.heap.size wr W' → W'.cell? ⟨b, off + k, none⟩ = some (.int .i64 (nth zs k))) := fun W' h => by rw [(hbel.trans (h.mono hbel.size)).cell (p := ⟨b, off + k, none⟩) (block_lt_of_cell q1)]; exact q1
      have Oz : Hid (∀ W, Calls Try.prog 31 #[.int .i64 (nth zs k)] W (MadeWh W (nth zs k) 3)) := fun W => of_any _ W (hz k)
      have HD : Hid (zs.drop k = nth zs k :: zs.drop (k + 1)) := drop_nth zs k (by omega)
      have hki : (k : Int) < (len : Int) := by omega
      clear q1 hc hz HAT
      generalize nth zs k = z at *
      go_wp2
      refine wp_region_said 7 (fun i u v => match i with
          | 0 => IsWh u x (3 + 3 * k) v
          | 1 => v = .slice (some ⟨b, off, none⟩) len cap
          | 2 => v = .int .i64 (k : Int)
          | 3 => v = .pointer (some ⟨b, off + k, none⟩)
          | 4 => v = .int .i64 z
          | 5 => IsWh u z 3 v
          | 6 => IsWh u (x * z) (3 + 3 * k + 3) v
          | _ => True) (by kernel_rfl) (by kernel_rfl) (by kernel_rfl) (by kernel_rfl) ?_ ?_ ?_
      · intro i w v w' h hb
        match i, h with
        | 0, h => exact IsWh.later h hb
        | 1, h => exact h
        | 2, h => exact h
        | 3, h => exact h
        | 4, h => exact h
        | 5, h => exact IsWh.later h hb
        | 6, h => exact IsWh.later h hb
        | _ + 7, _ => trivial
      · intro i o ρ w' hi ho hb hc hf hfr hdep
        have k1 := H1.out _ hb
        match i, hi with
        | 0, _ =>
          simp only [gTA, gCZ, gSI] at ho
          subst ho
          have ts : ρ (.tmp 3) = .pointer (some ⟨w1.heap.size, 0, none⟩) := hfr 3 (by kernel_rfl)
          have G := v3.later hb v3.lt
          have c0 := G.c0
          have c1 := G.c1
          simp [go_sem, ts, c0, c1]
          exact ⟨Below.refl _ _, m, ad, l, p, ds, rfl, hwh.below hb, hlb⟩
        | 1, _ =>
          simp only [gTA, gCZ, gCS, gSI] at ho
          subst ho
          have ts : ρ (.tmp 0) = .slice (some ⟨b, off, none⟩) len cap := hfr 0 (by kernel_rfl)
          simp [go_sem, ts]
          exact ⟨Below.refl _ _, rfl⟩
        | 2, _ =>
          simp only [gTA, gCZ, gCS, gSI] at ho
          subst ho
          have ts : ρ (.tmp 4) = .int .i64 (k : Int) := hfr 4 (by kernel_rfl)
          simp [go_sem, ts]
          exact ⟨Below.refl _ _, rfl⟩
        | 3, _ =>
          simp only [gTA, gCZ, gCS, gSI] at ho
          subst ho
          have t1 : ρ (.tmp 13) = .slice (some ⟨b, off, none⟩) len cap := hdep 1 13 (by kernel_rfl) (by kernel_rfl)
          have t2 : ρ (.tmp 14) = .int .i64 (k : Int) := hdep 2 14 (by kernel_rfl) (by kernel_rfl)
          simp [go_sem, t1, t2, hki]
          exact ⟨Below.refl _ _, rfl⟩
        | 4, _ =>
          simp only [gTA, gCZ, gCS, gSI] at ho
          subst ho
          have ts : ρ (.tmp 15) = .pointer (some ⟨b, off + k, none⟩) := hdep 3 15 (by kernel_rfl) (by kernel_rfl)
          simp [go_sem, ts, k1]
          exact ⟨Below.refl _ _, rfl⟩
        | 5, _ =>
          simp only [gTA, gCZ, gCS, gSI] at ho
          subst ho
          have ts : ρ (.tmp 16) = .int .i64 z := hdep 4 16 (by kernel_rfl) (by kernel_rfl)
          simp [go_sem, ts, hf]
          exact ⟨rfl, of_said (Oz.out _)⟩
        | 6, _ =>
          simp only [gTA, gCZ, gCS, gSI] at ho
          subst ho
          obtain ⟨m0, a0, l0, p0, d0, e0, x0, y0⟩ : IsWh w' x (3 + 3 * k) (ρ (.tmp 12)) := hdep 0 12 (by kernel_rfl) (by kernel_rfl)
          obtain ⟨m1, a1, l1, p1, d1, e1, x1, y1⟩ : IsWh w' z 3 (ρ (.tmp 17)) := hdep 5 17 (by kernel_rfl) (by kernel_rfl)
          simp [go_sem, e0, e1, hf]
          exact ⟨rfl, times_said ⟨m0, a0, l0, p0, d0, rfl, x0, y0⟩ ⟨m1, a1, l1, p1, d1, rfl, x1, y1⟩ (by omega)⟩
      · intro V w9 q9 hS
        obtain ⟨m0, a0, l0, p0, d0, e0, -, -⟩ : IsWh w9 x (3 + 3 * k) (V 0) := hS 0 (by decide)
        have e1 : V 1 = .slice (some ⟨b, off, none⟩) len cap := hS 1 (by decide)
        have e2 : V 2 = .int .i64 (k : Int) := hS 2 (by decide)
        have e3 : V 3 = .pointer (some ⟨b, off + k, none⟩) := hS 3 (by decide)
        have e4 : V 4 = .int .i64 z := hS 4 (by decide)
        obtain ⟨m5, a5, l5, p5, d5, e5, -, -⟩ : IsWh w9 z 3 (V 5) := hS 5 (by decide)
        obtain ⟨m6, a6, l6, p6, d6, e6, hw6, hl6⟩ : IsWh w9 (x * z) (3 + 3 * k + 3) (V 6) := hS 6 (by decide)
        simp only [List.drop_succ_cons, List.drop_zero, List.take_succ_cons, List.take_zero, puts, e0, e1, e2, e3, e4, e5, e6]
        clear hS e0 e1 e2 e3 e4 e5 e6 V
        have R := v3.later q9 v3.lt
        have r0 := R.c0
        have r1 := R.c1
        have f0 := R.f0
        have f1 := R.f1
        have P3 := R.put (.bool m6) (.slice a6 l6 p6)
        have P2 := ((v2.later q9 v2.lt).other (p := ⟨w1.heap.size, 0, none⟩) (by have := HLT.out; simp; omega) (.bool m6)).other (p := ⟨w1.heap.size, 1, none⟩) (by have := HLT.out; simp; omega) (.slice a6 l6 p6)
        have PW := hw6.store2 R (fun _ h => by cases h) (fun _ h => by cases h) (.bool m6) (.slice a6 l6 p6)
        have PB := ((hbel.trans (q9.mono hbel.size)).setCell (p := ⟨w1.heap.size, 0, none⟩) (by have := HLT.out; simp; omega) (.bool m6)).setCell (p := ⟨w1.heap.size, 1, none⟩) (by have := HLT.out; simp; omega) (.slice a6 l6 p6)
        have HS' : Hid (x * z * prodI (zs.drop (k + 1)) = prodI zs) := by
          have := HS.out
          rw [HD.out] at this
          show _ = _
          rw [Int.mul_assoc]
          exact this
        clear v2 v3 hwh R hw6 q9 hbel
        go_wp2
        go_roundg (len - (k + 1))
        case measure => omega
        case rel => exact ⟨k + 1, x * z, m6, a6, l6, p6, d6, by omega, rfl, by go_num, HS'.out, PB, P2, P3, PW, by omega⟩
    · have ek : len = k := by omega
      subst ek
      have hkk : ¬ (len : Int) < (len : Int) := by omega
      have HX : Hid (x = prodI zs) := by
        have := HS.out
        rw [List.drop_eq_nil_of_le (by omega)] at this
        rw [← this]
        exact (Int.mul_one x).symm
      have c0 := v3.c0
      have c1 := v3.c1
      have r0 := v2.c0
      have r1 := v2.c1
      have f0 := v2.f0
      have f1 := v2.f1
      go_wp2
      have P2 := v2.put (.bool m) (.slice ad l p)
      have PW := hwh.store2 v2 (fun _ h => by cases h) (fun _ h => by cases h) (.bool m) (.slice ad l p)
      have PB := (hbel.setCell (p := ⟨w.heap.size, 0, none⟩) (by simp) (.bool m)).setCell (p := ⟨w.heap.size, 1, none⟩) (by simp) (.slice ad l p)
      refine bodyPost_ret (v := .agg #[.bool m, .slice ad l p]) (by simp [results, Try.results29, go_sem, P2.c0, P2.c1]) rfl ⟨m, ad, l, p, ds, rfl, ?_, PB, hlb⟩
      rw [← HX.out]
      exact PW
end Go.Proofs.Ytdifaobfomfieaa

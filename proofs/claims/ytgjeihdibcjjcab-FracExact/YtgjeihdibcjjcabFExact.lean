/- The walk through the statement FracExact. (Written by tmpl/mkFExact.py out of FExact.head.) -/
import Derived.Test.YtgjeihdibcjjcabFExactM
import Derived.Test.YtgjeihdibcjjcabFrKeep
import Derived.Test.YtgjeihdibcjjcabFrAwake
import Derived.Test.YtgjeihdibcjjcabFrBig
import Derived.Test.YtgjeihdibcjjcabRegGen
import Derived.Deep.LoopGhost
import Derived.Deep.DeepCutAuto
namespace Go.Proofs.Ytgjeihdibcjjcab
open Go Go.ChangeShapes Go.WideShapes Go.ChangeAt Go.RowKit

/-- A variable that holds a number of any length. -/
def WhBox (u : World) (b : Nat) (x : Int) (n : Nat) : Prop := ∃ m a l p ds, Var2 u b (.bool m) (.slice a l p) ∧ Wh u m a l p ds x ∧ l ≤ n
theorem WhBox.later {u u' : World} {b : Nat} {x : Int} {n : Nat} (h : WhBox u b x n) (hb : Below u.heap.size u u') : WhBox u' b x n := by
  obtain ⟨m, a, l, p, ds, hv, hw, hl⟩ := h
  exact ⟨m, a, l, p, ds, hv.later hb hv.lt, hw.below hb, hl⟩
theorem WhBox.lt {u : World} {b : Nat} {x : Int} {n : Nat} (h : WhBox u b x n) : b < u.heap.size := by
  obtain ⟨m, a, l, p, ds, hv, -, -⟩ := h
  exact hv.lt
theorem WhBox.other {u : World} {b c : Nat} {x y : Int} {n k : Nat} (h : WhBox u b x n) (hc : WhBox u c y k) (hne : c ≠ b) (v1 v2 : Value) : WhBox ((u.setCell ⟨c, 0, none⟩ v1).setCell ⟨c, 1, none⟩ v2) b x n := by
  obtain ⟨m, a, l, p, ds, hv, hw, hl⟩ := h
  obtain ⟨m', a', l', p', ds', hv', -, -⟩ := hc
  exact ⟨m, a, l, p, ds, (hv.other (p := ⟨c, 0, none⟩) hne _).other (p := ⟨c, 1, none⟩) hne _, hw.store2 hv' (fun _ h => by cases h) (fun _ h => by cases h) _ _, hl⟩

/-- The three variables of the loop. -/
structure ExSt (w u : World) (bf bn bd : Nat) (p q x y : Int) (nx ny : Nat) : Prop where
  vf : Var2 u bf (.int .i64 p) (.int .i64 q)
  vn : WhBox u bn x nx
  vd : WhBox u bd y ny
  bel : Below w.heap.size w u
  lo : w.heap.size ≤ bn ∧ w.heap.size ≤ bd
  ne : bf ≠ bn ∧ bf ≠ bd ∧ bn ≠ bd
theorem ExSt.later {w u u' : World} {bf bn bd : Nat} {p q x y : Int} {nx ny : Nat} (h : ExSt w u bf bn bd p q x y nx ny) (hb : Below u.heap.size u u') : ExSt w u' bf bn bd p q x y nx ny :=
  ⟨h.vf.later hb h.vf.lt, h.vn.later hb, h.vd.later hb, h.bel.trans (hb.mono h.bel.size), h.lo, h.ne⟩
theorem ExSt.setN {w u : World} {bf bn bd : Nat} {p q x y x' : Int} {nx ny n' : Nat} (h : ExSt w u bf bn bd p q x y nx ny) {m : Bool} {a : Option Addr} {l c : Nat} {ds : List Int} (hw : Wh u m a l c ds x') (hl : l ≤ n') :
    ExSt w ((u.setCell ⟨bn, 0, none⟩ (.bool m)).setCell ⟨bn, 1, none⟩ (.slice a l c)) bf bn bd p q x' y n' ny := by
  obtain ⟨m', a', l', p', ds', hv', -, -⟩ := h.vn
  refine ⟨(h.vf.other (p := ⟨bn, 0, none⟩) h.ne.1.symm _).other (p := ⟨bn, 1, none⟩) h.ne.1.symm _, ⟨m, a, l, c, ds, hv'.put _ _, hw.store2 hv' (fun _ h => by cases h) (fun _ h => by cases h) _ _, hl⟩, h.vd.other h.vn h.ne.2.2 _ _, (h.bel.setCell (p := ⟨bn, 0, none⟩) h.lo.1 _).setCell (p := ⟨bn, 1, none⟩) h.lo.1 _, h.lo, h.ne⟩
theorem ExSt.setD {w u : World} {bf bn bd : Nat} {p q x y y' : Int} {nx ny n' : Nat} (h : ExSt w u bf bn bd p q x y nx ny) {m : Bool} {a : Option Addr} {l c : Nat} {ds : List Int} (hw : Wh u m a l c ds y') (hl : l ≤ n') :
    ExSt w ((u.setCell ⟨bd, 0, none⟩ (.bool m)).setCell ⟨bd, 1, none⟩ (.slice a l c)) bf bn bd p q x y' nx n' := by
  obtain ⟨m', a', l', p', ds', hv', -, -⟩ := h.vd
  refine ⟨(h.vf.other (p := ⟨bd, 0, none⟩) h.ne.2.1.symm _).other (p := ⟨bd, 1, none⟩) h.ne.2.1.symm _, h.vn.other h.vd h.ne.2.2.symm _ _, ⟨m, a, l, c, ds, hv'.put _ _, hw.store2 hv' (fun _ h => by cases h) (fun _ h => by cases h) _ _, hl⟩, (h.bel.setCell (p := ⟨bd, 0, none⟩) h.lo.2 _).setCell (p := ⟨bd, 1, none⟩) h.lo.2 _, h.lo, h.ne⟩

/-- The two fractions behind the loop. -/
structure Ex2 (w u : World) (bf bg : Nat) (p q r s : Int) (B : Nat) : Prop where
  vf : Var2 u bf (.int .i64 p) (.int .i64 q)
  vg : Var2 u bg (.int .i64 r) (.int .i64 s)
  bel : Below w.heap.size w u
  lo : w.heap.size ≤ B ∧ bf < B ∧ bg < B
  big : B ≤ u.heap.size
theorem Ex2.later {w u u' : World} {bf bg : Nat} {p q r s : Int} {B : Nat} (h : Ex2 w u bf bg p q r s B) (hb : Below u.heap.size u u') : Ex2 w u' bf bg p q r s B :=
  ⟨h.vf.later hb h.vf.lt, h.vg.later hb h.vg.lt, h.bel.trans (hb.mono h.bel.size), h.lo, Nat.le_trans h.big hb.size⟩
theorem Ex2.set {w u : World} {bf bg : Nat} {p q r s : Int} {B bb : Nat} (h : Ex2 w u bf bg p q r s B) (hB : B ≤ bb) (v1 v2 : Value) : Ex2 w ((u.setCell ⟨bb, 0, none⟩ v1).setCell ⟨bb, 1, none⟩ v2) bf bg p q r s B := by
  have h1 : bb ≠ bf := by have := h.lo.2.1; omega
  have h2 : bb ≠ bg := by have := h.lo.2.2; omega
  have h3 : w.heap.size ≤ bb := by have := h.lo.1; omega
  exact ⟨(h.vf.other (p := ⟨bb, 0, none⟩) h1 _).other (p := ⟨bb, 1, none⟩) h1 _, (h.vg.other (p := ⟨bb, 0, none⟩) h2 _).other (p := ⟨bb, 1, none⟩) h2 _, (h.bel.setCell (p := ⟨bb, 0, none⟩) h3 _).setCell (p := ⟨bb, 1, none⟩) h3 _, h.lo, by rw [size_set, size_set]; exact h.big⟩

theorem fit_rng {x : Int} (h : fitB x = true) : -9223372036854775808 ≤ x ∧ x ≤ 9223372036854775807 := fitB_true.1 h
theorem ArgP.init {W : World} {a : Option Addr} {j cap : Nat} {fs : List (Int × Int)} (h : ArgP W a (j + 1) cap fs) : ArgP W a j cap (fs.take j) := by
  have hs := h.size
  have hlt : (fs.take j).length = j := by rw [List.length_take]; omega
  have hn : ∀ k, k < j → nthN (fs.take j) k = nthN fs k ∧ nthD (fs.take j) k = nthD fs k := fun k hk => by
    unfold nthN nthD
    rw [List.getD_eq_getElem?_getD, List.getD_eq_getElem?_getD, List.getElem?_take_of_lt hk]
    exact ⟨rfl, rfl⟩
  refine ⟨hlt, by have := h.reach; omega, fun e => by have := (h.none e).1; omega, fun k => ?_, ?_, by have := h.room; omega⟩
  · by_cases hk : k < j
    · rw [(hn k hk).1, (hn k hk).2]; exact h.fits k
    · have e1 : nthN (fs.take j) k = 0 := by unfold nthN; rw [List.getD_eq_getElem?_getD, List.getElem?_eq_none (by omega)]; rfl
      have e2 : nthD (fs.take j) k = 0 := by unfold nthD; rw [List.getD_eq_getElem?_getD, List.getElem?_eq_none (by omega)]; rfl
      rw [e1, e2]; decide
  · rcases h.lies with h0 | ⟨b, off, e, hc⟩
    · rw [h0] at hs; simp at hs
    · refine .inr ⟨b, off, e, fun k hk => ?_⟩
      rw [hlt] at hk
      rw [(hn k hk).1, (hn k hk).2]
      exact hc k (by omega)
theorem take_last {fs : List (Int × Int)} {j : Nat} (h : fs.length = j + 1) : fs.take j ++ [(nthN fs j, nthD fs j)] = fs := by
  have := dropP (fs := fs) (k := j) (by omega)
  have e2 := dropP_end (fs := fs) (k := j + 1) (by omega)
  rw [e2] at this
  rw [← this, List.take_append_drop]

set_option maxRecDepth 100000 in
set_option maxHeartbeats 4000000 in
theorem exact_ok (a : Option Addr) (len cap : Nat) (fs : List (Int × Int)) (w : World) (hA : ArgP w a len cap fs) (hlen : len ≤ 300) (hall : allB fs = true) (p q : Int) (hO : mulO 1 1 fs = some (p, q)) :
    Calls Try.prog 6 #[.slice a len cap] w fun e w' => e = .returned (.bool true) ∧ Below w.heap.size w w' := by
  have HA : Hid (ArgP w a len cap fs) := hA
  have hm : mulN fs = p ∧ mulD fs = q ∧ mulE fs = 0 := by unfold mulN mulD mulE; rw [hall, hO]; exact ⟨rfl, rfl, rfl⟩
  have hlent := lentP_any a fs len cap w hA
  have M1 : Hid (∀ g c W, AtP W (some ⟨g, 0, none⟩) fs → Calls Try.prog 24 #[.slice (some ⟨g, 0, none⟩) len c] W fun e w' => e = .returned (.tuple #[.agg #[.int .i64 p, .int .i64 q], .int .i64 0]) ∧ Below W.heap.size W w') := fun g c W h => by
    have := mul_frac (some ⟨g, 0, none⟩) fs len c W hA.size (by omega) hA.fits h
    unfold MulEnd at this
    rw [hm.1, hm.2.1, hm.2.2] at this
    exact this
  obtain ⟨hv, hx⟩ := mulO_exact (x := 1) (y := 1) (by decide) hall hO
  obtain ⟨hfp, hfq⟩ := mulO_fits (x := 1) (y := 1) (by decide) (by decide) hO
  have hp2 := fit_rng hfp
  have hq2 := fit_rng hfq
  have VV : Hid (∀ W, Calls Try.prog 25 #[.agg #[.int .i64 p, .int .i64 q]] W fun e w' => e = .returned (.bool true) ∧ Below W.heap.size W w') := fun W => by
    have := valid_any p q W hp2 hq2
    rw [hv] at this
    exact this
  have VK : Hid (∀ k W, k < len → Calls Try.prog 25 #[.agg #[.int .i64 (nthN fs k), .int .i64 (nthD fs k)]] W fun e w' => e = .returned (.bool true) ∧ Below W.heap.size W w') := fun k W hk => by
    have := valid_any (nthN fs k) (nthD fs k) W (hA.fits k).1 (hA.fits k).2
    rw [allB_nth hall (by rw [hA.size]; exact hk)] at this
    exact this
  have OF1 : Hid (∀ W, Calls Try.prog 12 #[.int .i64 1] W (MadeWh W 1 3)) := fun W => of_any 1 W (by decide)
  have HX : Hid (p * prodD fs = prodN fs * q) := by show p * prodD fs = prodN fs * q; rw [Int.one_mul, Int.one_mul] at hx; exact hx
  have HOO : Hid (allB fs = true ∧ mulO 1 1 fs = some (p, q)) := ⟨hall, hO⟩
  have hl3 : decide ((300 : Int) < (len : Int)) = false := decide_eq_false (by omega)
  clear hA hm hall hO hv hx hfp hfq
  go_enter Try.func6, Try.ntmps6
  go_wp2_with (first
    | (go_at_call 17; (with_reducible refine hlent.mono ?_); rintro e w0 ⟨g, capg, rfl, hcg, hL, B0⟩)
    | (go_at_call 24; (with_reducible refine (M1.out _ _ _ hL.at).mono ?_); rintro e w1 ⟨rfl, hb1⟩; have B1' := B0.trans (hb1.mono B0.size); have B1 := B1'.alloc B1'.size (.cells #[.int .i64 p, .int .i64 q] 24); have U1 := var2_new w1 (.int .i64 p) (.int .i64 q) 24)
    | (go_at_call 12; (with_reducible refine (OF1.out (w2.alloc (.cells #[.bool m2, .slice a2 l2 c2] 33))).mono ?_); rintro e w3 ⟨m3, a3, l3, c3, d3, rfl, hw3, hb3, hl3'⟩)
    | (go_at_call 12; (with_reducible refine (OF1.out (w1.alloc (.cells #[.int .i64 p, .int .i64 q] 24))).mono ?_); rintro e w2 ⟨m2, a2, l2, c2, d2, rfl, hw2, hb2, hl2⟩))
  have B2' := B1.trans (hb2.mono B1.size)
  have U2 := (U1.later hb2 U1.lt).alloc (.cells #[.bool m2, .slice a2 l2 c2] 33)
  have N2 : WhBox (w2.alloc (.cells #[.bool m2, .slice a2 l2 c2] 33)) w2.heap.size 1 3 := ⟨m2, a2, l2, c2, d2, var2_new _ _ _ _, hw2.below ((Below.refl _ _).alloc (Nat.le_refl _) _), hl2⟩
  have B2 := B2'.alloc B2'.size (.cells #[.bool m2, .slice a2 l2 c2] 33)
  have hst : ExSt w (w3.alloc (.cells #[.bool m3, .slice a3 l3 c3] 33)) w1.heap.size w2.heap.size w3.heap.size p q 1 1 3 3 := by
    have A3 : Below w3.heap.size w3 (w3.alloc (.cells #[.bool m3, .slice a3 l3 c3] 33)) := (Below.refl _ _).alloc (Nat.le_refl _) _
    have B3 := B2.trans (hb3.mono B2.size)
    have s1 := hb2.size
    have s2 := hb3.size
    have s3 := B1'.size
    simp at s1 s2
    exact ⟨(U2.later hb3 U2.lt).later A3 (U2.later hb3 U2.lt).lt, (N2.later hb3).later A3, ⟨m3, a3, l3, c3, d3, var2_new _ _ _ _, hw3.below A3, hl3'⟩, B3.alloc B3.size _, ⟨by omega, by omega⟩, ⟨by omega, by omega, by omega⟩⟩
  clear hlent hL hcg B0 hb1 B1' B1 U1 hw2 hb2 hl2 hw3 hb3 hl3' B2' U2 N2 B2 OF1
  generalize w3.alloc (.cells #[.bool m3, .slice a3 l3 c3] 33) = W3 at *
  generalize w1.heap.size = bf at *
  generalize w2.heap.size = bn at *
  generalize w3.heap.size = bd at *
  have HST : Hid (ExSt w W3 bf bn bd p q 1 1 3 3) := hst
  clear hst
  go_loopg [7] len (fun gk i wr => ∃ (k : Nat) (X Y : Int), k ≤ len ∧ gk = len - k ∧ i = .int .i64 k ∧ ExSt w wr bf bn bd p q X Y (3 + 3 * k) (3 + 3 * k) ∧ X * prodN (fs.drop k) = prodN fs ∧ Y * prodD (fs.drop k) = prodD fs)
  case atStart => exact ⟨0, 1, 1, Nat.zero_le _, rfl, rfl, HST.out, by rw [Int.one_mul]; rfl, by rw [Int.one_mul]; rfl⟩
  case round =>
    clear HST
    obtain ⟨k, X, Y, hk, rfl, rfl, hst0, hX, hY⟩ := hrel
    have HXX : Hid (X * prodN (fs.drop k) = prodN fs ∧ Y * prodD (fs.drop k) = prodD fs) := ⟨hX, hY⟩
    clear hX hY
    by_cases hlt : k < len
    · have hki : (k : Int) < (len : Int) := by omega
      obtain ⟨b, off, rfl, hc⟩ := HA.out.lies.resolve_left (fun e => by have := HA.out.size; rw [e] at this; simp at this; omega)
      have hck := hc k (by rw [HA.out.size]; exact hlt)
      have hblt := block_lt_of_cell hck.1
      have HC0 : Hid (∀ W', Below w.heap.size w W' → W'.cell? ⟨b, off + k * 2, none⟩ = some (.int .i64 (nthN fs k))) := fun W' h => by rw [h.cell (p := ⟨b, off + k * 2, none⟩) hblt]; exact hck.1
      have HC1 : Hid (∀ W', Below w.heap.size w W' → W'.cell? ⟨b, off + k * 2 + 1, none⟩ = some (.int .i64 (nthD fs k))) := fun W' h => by rw [h.cell (p := ⟨b, off + k * 2 + 1, none⟩) hblt]; exact hck.2
      have hv := VK.out k
      have hr0 := (HA.out.fits k).1
      have hr1 := (HA.out.fits k).2
      have HD : Hid (fs.drop k = (nthN fs k, nthD fs k) :: fs.drop (k + 1)) := dropP (by rw [HA.out.size]; exact hlt)
      have q0 := HC0.out wr hst0.bel
      have q1 := HC1.out wr hst0.bel
      have HS0 : Hid (ExSt w wr bf bn bd p q X Y (3 + 3 * k) (3 + 3 * k)) := hst0
      clear hc hck hblt hst0
      generalize nthN fs k = nz at *
      generalize nthD fs k = nv at *
      go_wp2_with (go_at_call 25; (with_reducible refine (hv _ hlt).mono ?_); rintro e wv ⟨rfl, hbv⟩)
      have hst := HS0.out.later hbv
      clear HS0 hbv q0 q1 hv
      refine wp_region_gen [8] (fun d i u z => match i with
          | 0 => d 8 = false → IsWh u X (3 + 3 * k) z
          | 1 => z = .slice (some ⟨b, off, none⟩) len cap
          | 2 => z = .int .i64 (k : Int)
          | 3 => z = .pointer (some ⟨b, off + k * 2, none⟩)
          | 4 => z = .pointer (some ⟨b, off + k * 2, none⟩)
          | 5 => z = .int .i64 nz
          | 6 => d 8 = false → IsWh u nz 3 z
          | 7 => d 8 = false → IsWh u (X * nz) ((3 + 3 * k) + 3) z
          | 8 => True
          | _ => True) (fun d u => ExSt w u bf bn bd p q (if d 8 = true then X * nz else X) Y (if d 8 = true then 3 + 3 * k + 3 else 3 + 3 * k) (3 + 3 * k)) (by kernel_rfl) (by kernel_rfl) (by kernel_rfl) ?_ ?_ ?_ ?_ ?_ ?_ (by kernel_rfl)
      · intro d i w v w' h hb
        match i, h with
        | 0, h => exact fun hd => IsWh.later (h hd) hb
        | 1, h => exact h
        | 2, h => exact h
        | 3, h => exact h
        | 4, h => exact h
        | 5, h => exact h
        | 6, h => exact fun hd => IsWh.later (h hd) hb
        | 7, h => exact fun hd => IsWh.later (h hd) hb
        | 8, h => trivial
        | _ + 9, _ => trivial
      · intro d u u' h hb
        exact h.later hb
      · exact hst
      · intro d i o ρ w' hm ho hf hg hC hcs hfs hfr hdep
        match i, hm, ho, hf, hg, hfr, hdep with
        | 0, _, ho, hf, hg, hfr, hdep =>
          simp only [List.getElem?_toArray, List.getElem?_cons_zero, Option.some.injEq] at ho
          subst ho
          refine ⟨fun _ => ?_, fun hw => absurd (show true = false from hw) (by decide)⟩
          have hd : d 8 = false := hf 8 (by decide) (by kernel_rfl)
          rw [hd] at hC
          obtain ⟨mm, aa, ll, pp, dd, hv, hw, hl⟩ := hC.vn
          have ts : ρ (.tmp 5) = .pointer (some ⟨bn, 0, none⟩) := hfr 5 (by kernel_rfl)
          have c0 := hv.c0
          have c1 := hv.c1
          simp [go_sem, ts, c0, c1]
          exact ⟨Below.refl _ _, fun _ => ⟨mm, aa, ll, pp, dd, rfl, hw, hl⟩⟩
        | 1, _, ho, hf, hg, hfr, hdep =>
          simp only [List.getElem?_toArray, List.getElem?_cons_zero, List.getElem?_cons_succ, Option.some.injEq] at ho
          subst ho
          refine ⟨fun _ => ?_, fun hw => absurd (show true = false from hw) (by decide)⟩
          have ts : ρ (.tmp 0) = .slice (some ⟨b, off, none⟩) len cap := hfr 0 (by kernel_rfl)
          simp [go_sem, ts]
          exact ⟨Below.refl _ _, rfl⟩
        | 2, _, ho, hf, hg, hfr, hdep =>
          simp only [List.getElem?_toArray, List.getElem?_cons_zero, List.getElem?_cons_succ, Option.some.injEq] at ho
          subst ho
          refine ⟨fun _ => ?_, fun hw => absurd (show true = false from hw) (by decide)⟩
          have ts : ρ (.tmp 7) = .int .i64 (k : Int) := hfr 7 (by kernel_rfl)
          simp [go_sem, ts]
          exact ⟨Below.refl _ _, rfl⟩
        | 3, _, ho, hf, hg, hfr, hdep =>
          simp only [List.getElem?_toArray, List.getElem?_cons_zero, List.getElem?_cons_succ, Option.some.injEq] at ho
          subst ho
          refine ⟨fun _ => ?_, fun hw => absurd (show true = false from hw) (by decide)⟩
          have d0 : ρ (.tmp 52) = .slice (some ⟨b, off, none⟩) len cap := hdep 1 52 (by kernel_rfl) (by kernel_rfl)
          have d1 : ρ (.tmp 53) = .int .i64 (k : Int) := hdep 2 53 (by kernel_rfl) (by kernel_rfl)
          simp [go_sem, d0, d1, hki]
          exact ⟨Below.refl _ _, rfl⟩
        | 4, _, ho, hf, hg, hfr, hdep =>
          simp only [List.getElem?_toArray, List.getElem?_cons_zero, List.getElem?_cons_succ, Option.some.injEq] at ho
          subst ho
          refine ⟨fun _ => ?_, fun hw => absurd (show true = false from hw) (by decide)⟩
          have d0 : ρ (.tmp 54) = .pointer (some ⟨b, off + k * 2, none⟩) := hdep 3 54 (by kernel_rfl) (by kernel_rfl)
          simp [go_sem, d0]
          exact ⟨Below.refl _ _, rfl⟩
        | 5, _, ho, hf, hg, hfr, hdep =>
          simp only [List.getElem?_toArray, List.getElem?_cons_zero, List.getElem?_cons_succ, Option.some.injEq] at ho
          subst ho
          refine ⟨fun _ => ?_, fun hw => absurd (show true = false from hw) (by decide)⟩
          have hcell := HC0.out w' hC.bel
          have d0 : ρ (.tmp 55) = .pointer (some ⟨b, off + k * 2, none⟩) := hdep 4 55 (by kernel_rfl) (by kernel_rfl)
          simp [go_sem, d0, hcell]
          exact ⟨Below.refl _ _, rfl⟩
        | 6, _, ho, hf, hg, hfr, hdep =>
          simp only [List.getElem?_toArray, List.getElem?_cons_zero, List.getElem?_cons_succ, Option.some.injEq] at ho
          subst ho
          refine ⟨fun _ => ?_, fun hw => absurd (show true = false from hw) (by decide)⟩
          have ts : ρ (.tmp 56) = .int .i64 nz := hdep 5 56 (by kernel_rfl) (by kernel_rfl)
          simp [go_sem, ts, hfs]
          refine ⟨rfl, (of_said (of_any nz _ hr0)).mono ?_⟩
          rintro e u ⟨v, he, hb, hv⟩
          exact ⟨v, he, hb, fun _ => hv⟩
        | 7, _, ho, hf, hg, hfr, hdep =>
          simp only [List.getElem?_toArray, List.getElem?_cons_zero, List.getElem?_cons_succ, Option.some.injEq] at ho
          subst ho
          refine ⟨fun _ => ?_, fun hw => absurd (show true = false from hw) (by decide)⟩
          have hd : d 8 = false := hf 8 (by decide) (by kernel_rfl)
          obtain ⟨m0, a0, l0, p0, d0, e0, x0, y0⟩ : IsWh w' X (3 + 3 * k) (ρ (.tmp 51)) := hdep 0 51 (by kernel_rfl) (by kernel_rfl) hd
          obtain ⟨m1, a1, l1, p1, d1, e1, x1, y1⟩ : IsWh w' nz 3 (ρ (.tmp 57)) := hdep 6 57 (by kernel_rfl) (by kernel_rfl) hd
          simp [go_sem, e0, e1, hfs]
          refine ⟨rfl, (times_said ⟨m0, a0, l0, p0, d0, rfl, x0, y0⟩ ⟨m1, a1, l1, p1, d1, rfl, x1, y1⟩ (by omega)).mono ?_⟩
          rintro e u ⟨v, he, hb, hv⟩
          exact ⟨v, he, hb, fun _ => hv⟩
        | 8, hm, _, _, _, _, _ => exact absurd hm (by decide)
        | n + 9, _, ho, _, _, _, _ => simp at ho
      · intro d i o ρ w' hm ho h0 hf hg hC hcs hfs hfr hdep
        match i, hm, ho, h0, hf, hg, hfr, hdep with
        | 0, hm, _, _, _, _, _, _ => exact absurd hm (by decide)
        | 1, hm, _, _, _, _, _, _ => exact absurd hm (by decide)
        | 2, hm, _, _, _, _, _, _ => exact absurd hm (by decide)
        | 3, hm, _, _, _, _, _, _ => exact absurd hm (by decide)
        | 4, hm, _, _, _, _, _, _ => exact absurd hm (by decide)
        | 5, hm, _, _, _, _, _, _ => exact absurd hm (by decide)
        | 6, hm, _, _, _, _, _, _ => exact absurd hm (by decide)
        | 7, hm, _, _, _, _, _, _ => exact absurd hm (by decide)
        | 8, _, ho, h0, hf, hg, hfr, hdep =>
          simp only [List.getElem?_toArray, List.getElem?_cons_zero, List.getElem?_cons_succ, Option.some.injEq] at ho
          subst ho
          rw [h0] at hC
          obtain ⟨m1, a1, l1, p1, d1, e1, x1, y1⟩ : IsWh w' (X * nz) ((3 + 3 * k) + 3) (ρ (.tmp 58)) := hdep 7 58 (by kernel_rfl) (by kernel_rfl) h0
          have ts : ρ (.tmp 5) = .pointer (some ⟨bn, 0, none⟩) := hfr 5 (by kernel_rfl)
          obtain ⟨mm, aa, ll, pp, dd, hv, hw, hl⟩ := hC.vn
          have c0 := hv.c0
          have c1 := hv.c1
          have f0 := hv.f0
          have f1 := hv.f1
          have c1' : (w'.setCell ⟨bn, 0, none⟩ (.bool m1)).cell? ⟨bn, 1, none⟩ = some (.slice aa ll pp) := by rw [World.cell?_setCell_other _ _ _ _ (by simp)]; exact c1
          refine ⟨rfl, ?_⟩
          have hrun : (execOp ρ { dst := none, op := Op.store 33 (Operand.tmp 5) (Operand.tmp 58), type := 0, pos := "", after := #[], guard := none }).run Try.prog w' = .ok .skip ((w'.setCell ⟨bn, 0, none⟩ (.bool m1)).setCell ⟨bn, 1, none⟩ (.slice a1 l1 p1)) := by simp [go_sem, ts, e1, c0, f0, f1, c1']
          refine markUpon_skip hrun ⟨?_, fun h => absurd rfl h, fun j t ht hs => ?_⟩
          · have e8 : doneAt d 8 8 = true := rfl
            show ExSt _ _ _ _ _ _ _ (if doneAt d 8 8 = true then X * nz else X) Y (if doneAt d 8 8 = true then 3 + 3 * k + 3 else 3 + 3 * k) (3 + 3 * k)
            rw [e8]
            exact hC.setN x1 y1
          · match j, ht, hs with
            | 0, _, _ => exact fun h => absurd (show true = false from h) (by decide)
            | 1, _, hs => exact hs
            | 2, _, hs => exact hs
            | 3, _, hs => exact hs
            | 4, _, hs => exact hs
            | 5, _, hs => exact hs
            | 6, _, _ => exact fun h => absurd (show true = false from h) (by decide)
            | 7, _, _ => exact fun h => absurd (show true = false from h) (by decide)
            | 8, _, _ => trivial
            | _ + 9, _, _ => trivial
        | n + 9, _, ho, _, _, _, _, _ => simp at ho
      · intro V w9 hC9 hS
        simp only [puts, put_none]
        simp only [Act.put, List.setIfInBounds_toArray, List.set_cons_zero, List.set_cons_succ]
        clear hS 
        have hst2 : ExSt w w9 bf bn bd p q (X * nz) Y (3 + 3 * k + 3) (3 + 3 * k) := hC9
        clear hC9 hst
        go_wp2
        refine wp_region_gen [8] (fun d i u z => match i with
            | 0 => d 8 = false → IsWh u Y (3 + 3 * k) z
            | 1 => z = .slice (some ⟨b, off, none⟩) len cap
            | 2 => z = .int .i64 (k : Int)
            | 3 => z = .pointer (some ⟨b, off + k * 2, none⟩)
            | 4 => z = .pointer (some ⟨b, off + k * 2 + 1, none⟩)
            | 5 => z = .int .i64 nv
            | 6 => d 8 = false → IsWh u nv 3 z
            | 7 => d 8 = false → IsWh u (Y * nv) ((3 + 3 * k) + 3) z
            | 8 => True
            | _ => True) (fun d u => ExSt w u bf bn bd p q (X * nz) (if d 8 = true then Y * nv else Y) (3 + 3 * k + 3) (if d 8 = true then 3 + 3 * k + 3 else 3 + 3 * k)) (by kernel_rfl) (by kernel_rfl) (by kernel_rfl) ?_ ?_ ?_ ?_ ?_ ?_ (by kernel_rfl)
        · intro d i w v w' h hb
          match i, h with
          | 0, h => exact fun hd => IsWh.later (h hd) hb
          | 1, h => exact h
          | 2, h => exact h
          | 3, h => exact h
          | 4, h => exact h
          | 5, h => exact h
          | 6, h => exact fun hd => IsWh.later (h hd) hb
          | 7, h => exact fun hd => IsWh.later (h hd) hb
          | 8, h => trivial
          | _ + 9, _ => trivial
        · intro d u u' h hb
          exact h.later hb
        · exact hst2
        · intro d i o ρ w' hm ho hf hg hC hcs hfs hfr hdep
          match i, hm, ho, hf, hg, hfr, hdep with
          | 0, _, ho, hf, hg, hfr, hdep =>
            simp only [List.getElem?_toArray, List.getElem?_cons_zero, Option.some.injEq] at ho
            subst ho
            refine ⟨fun _ => ?_, fun hw => absurd (show true = false from hw) (by decide)⟩
            have hd : d 8 = false := hf 8 (by decide) (by kernel_rfl)
            rw [hd] at hC
            obtain ⟨mm, aa, ll, pp, dd, hv, hw, hl⟩ := hC.vd
            have ts : ρ (.tmp 6) = .pointer (some ⟨bd, 0, none⟩) := hfr 6 (by kernel_rfl)
            have c0 := hv.c0
            have c1 := hv.c1
            simp [go_sem, ts, c0, c1]
            exact ⟨Below.refl _ _, fun _ => ⟨mm, aa, ll, pp, dd, rfl, hw, hl⟩⟩
          | 1, _, ho, hf, hg, hfr, hdep =>
            simp only [List.getElem?_toArray, List.getElem?_cons_zero, List.getElem?_cons_succ, Option.some.injEq] at ho
            subst ho
            refine ⟨fun _ => ?_, fun hw => absurd (show true = false from hw) (by decide)⟩
            have ts : ρ (.tmp 0) = .slice (some ⟨b, off, none⟩) len cap := hfr 0 (by kernel_rfl)
            simp [go_sem, ts]
            exact ⟨Below.refl _ _, rfl⟩
          | 2, _, ho, hf, hg, hfr, hdep =>
            simp only [List.getElem?_toArray, List.getElem?_cons_zero, List.getElem?_cons_succ, Option.some.injEq] at ho
            subst ho
            refine ⟨fun _ => ?_, fun hw => absurd (show true = false from hw) (by decide)⟩
            have ts : ρ (.tmp 7) = .int .i64 (k : Int) := hfr 7 (by kernel_rfl)
            simp [go_sem, ts]
            exact ⟨Below.refl _ _, rfl⟩
          | 3, _, ho, hf, hg, hfr, hdep =>
            simp only [List.getElem?_toArray, List.getElem?_cons_zero, List.getElem?_cons_succ, Option.some.injEq] at ho
            subst ho
            refine ⟨fun _ => ?_, fun hw => absurd (show true = false from hw) (by decide)⟩
            have d0 : ρ (.tmp 60) = .slice (some ⟨b, off, none⟩) len cap := hdep 1 60 (by kernel_rfl) (by kernel_rfl)
            have d1 : ρ (.tmp 61) = .int .i64 (k : Int) := hdep 2 61 (by kernel_rfl) (by kernel_rfl)
            simp [go_sem, d0, d1, hki]
            exact ⟨Below.refl _ _, rfl⟩
          | 4, _, ho, hf, hg, hfr, hdep =>
            simp only [List.getElem?_toArray, List.getElem?_cons_zero, List.getElem?_cons_succ, Option.some.injEq] at ho
            subst ho
            refine ⟨fun _ => ?_, fun hw => absurd (show true = false from hw) (by decide)⟩
            have d0 : ρ (.tmp 62) = .pointer (some ⟨b, off + k * 2, none⟩) := hdep 3 62 (by kernel_rfl) (by kernel_rfl)
            simp [go_sem, d0]
            exact ⟨Below.refl _ _, rfl⟩
          | 5, _, ho, hf, hg, hfr, hdep =>
            simp only [List.getElem?_toArray, List.getElem?_cons_zero, List.getElem?_cons_succ, Option.some.injEq] at ho
            subst ho
            refine ⟨fun _ => ?_, fun hw => absurd (show true = false from hw) (by decide)⟩
            have hcell := HC1.out w' hC.bel
            have d0 : ρ (.tmp 63) = .pointer (some ⟨b, off + k * 2 + 1, none⟩) := hdep 4 63 (by kernel_rfl) (by kernel_rfl)
            simp [go_sem, d0, hcell]
            exact ⟨Below.refl _ _, rfl⟩
          | 6, _, ho, hf, hg, hfr, hdep =>
            simp only [List.getElem?_toArray, List.getElem?_cons_zero, List.getElem?_cons_succ, Option.some.injEq] at ho
            subst ho
            refine ⟨fun _ => ?_, fun hw => absurd (show true = false from hw) (by decide)⟩
            have ts : ρ (.tmp 64) = .int .i64 nv := hdep 5 64 (by kernel_rfl) (by kernel_rfl)
            simp [go_sem, ts, hfs]
            refine ⟨rfl, (of_said (of_any nv _ hr1)).mono ?_⟩
            rintro e u ⟨v, he, hb, hv⟩
            exact ⟨v, he, hb, fun _ => hv⟩
          | 7, _, ho, hf, hg, hfr, hdep =>
            simp only [List.getElem?_toArray, List.getElem?_cons_zero, List.getElem?_cons_succ, Option.some.injEq] at ho
            subst ho
            refine ⟨fun _ => ?_, fun hw => absurd (show true = false from hw) (by decide)⟩
            have hd : d 8 = false := hf 8 (by decide) (by kernel_rfl)
            obtain ⟨m0, a0, l0, p0, d0, e0, x0, y0⟩ : IsWh w' Y (3 + 3 * k) (ρ (.tmp 59)) := hdep 0 59 (by kernel_rfl) (by kernel_rfl) hd
            obtain ⟨m1, a1, l1, p1, d1, e1, x1, y1⟩ : IsWh w' nv 3 (ρ (.tmp 65)) := hdep 6 65 (by kernel_rfl) (by kernel_rfl) hd
            simp [go_sem, e0, e1, hfs]
            refine ⟨rfl, (times_said ⟨m0, a0, l0, p0, d0, rfl, x0, y0⟩ ⟨m1, a1, l1, p1, d1, rfl, x1, y1⟩ (by omega)).mono ?_⟩
            rintro e u ⟨v, he, hb, hv⟩
            exact ⟨v, he, hb, fun _ => hv⟩
          | 8, hm, _, _, _, _, _ => exact absurd hm (by decide)
          | n + 9, _, ho, _, _, _, _ => simp at ho
        · intro d i o ρ w' hm ho h0 hf hg hC hcs hfs hfr hdep
          match i, hm, ho, h0, hf, hg, hfr, hdep with
          | 0, hm, _, _, _, _, _, _ => exact absurd hm (by decide)
          | 1, hm, _, _, _, _, _, _ => exact absurd hm (by decide)
          | 2, hm, _, _, _, _, _, _ => exact absurd hm (by decide)
          | 3, hm, _, _, _, _, _, _ => exact absurd hm (by decide)
          | 4, hm, _, _, _, _, _, _ => exact absurd hm (by decide)
          | 5, hm, _, _, _, _, _, _ => exact absurd hm (by decide)
          | 6, hm, _, _, _, _, _, _ => exact absurd hm (by decide)
          | 7, hm, _, _, _, _, _, _ => exact absurd hm (by decide)
          | 8, _, ho, h0, hf, hg, hfr, hdep =>
            simp only [List.getElem?_toArray, List.getElem?_cons_zero, List.getElem?_cons_succ, Option.some.injEq] at ho
            subst ho
            rw [h0] at hC
            obtain ⟨m1, a1, l1, p1, d1, e1, x1, y1⟩ : IsWh w' (Y * nv) ((3 + 3 * k) + 3) (ρ (.tmp 66)) := hdep 7 66 (by kernel_rfl) (by kernel_rfl) h0
            have ts : ρ (.tmp 6) = .pointer (some ⟨bd, 0, none⟩) := hfr 6 (by kernel_rfl)
            obtain ⟨mm, aa, ll, pp, dd, hv, hw, hl⟩ := hC.vd
            have c0 := hv.c0
            have c1 := hv.c1
            have f0 := hv.f0
            have f1 := hv.f1
            have c1' : (w'.setCell ⟨bd, 0, none⟩ (.bool m1)).cell? ⟨bd, 1, none⟩ = some (.slice aa ll pp) := by rw [World.cell?_setCell_other _ _ _ _ (by simp)]; exact c1
            refine ⟨rfl, ?_⟩
            have hrun : (execOp ρ { dst := none, op := Op.store 33 (Operand.tmp 6) (Operand.tmp 66), type := 0, pos := "", after := #[], guard := none }).run Try.prog w' = .ok .skip ((w'.setCell ⟨bd, 0, none⟩ (.bool m1)).setCell ⟨bd, 1, none⟩ (.slice a1 l1 p1)) := by simp [go_sem, ts, e1, c0, f0, f1, c1']
            refine markUpon_skip hrun ⟨?_, fun h => absurd rfl h, fun j t ht hs => ?_⟩
            · have e8 : doneAt d 8 8 = true := rfl
              show ExSt _ _ _ _ _ _ _ (X * nz) (if doneAt d 8 8 = true then Y * nv else Y) (3 + 3 * k + 3) (if doneAt d 8 8 = true then 3 + 3 * k + 3 else 3 + 3 * k)
              rw [e8]
              exact hC.setD x1 y1
            · match j, ht, hs with
              | 0, _, _ => exact fun h => absurd (show true = false from h) (by decide)
              | 1, _, hs => exact hs
              | 2, _, hs => exact hs
              | 3, _, hs => exact hs
              | 4, _, hs => exact hs
              | 5, _, hs => exact hs
              | 6, _, _ => exact fun h => absurd (show true = false from h) (by decide)
              | 7, _, _ => exact fun h => absurd (show true = false from h) (by decide)
              | 8, _, _ => trivial
              | _ + 9, _, _ => trivial
          | n + 9, _, ho, _, _, _, _, _ => simp at ho
        · intro V w9 hC9 hS
          simp only [puts, put_none]
          simp only [Act.put, List.setIfInBounds_toArray, List.set_cons_zero, List.set_cons_succ]
          clear hS 
          have hst3 : ExSt w w9 bf bn bd p q (X * nz) (Y * nv) (3 + 3 * k + 3) (3 + 3 * k + 3) := hC9
          clear hC9 hst2
          go_wp2
          go_roundg (len - (k + 1))
          case measure => omega
          case rel =>
            refine ⟨k + 1, X * nz, Y * nv, by omega, rfl, by go_num, hst3, ?_, ?_⟩
            · have := HXX.out.1; rw [HD.out, prodN] at this; rw [Int.mul_assoc]; exact this
            · have := HXX.out.2; rw [HD.out, prodD] at this; rw [Int.mul_assoc]; exact this
    · have ek : len = k := by omega
      subst ek
      have hkk : ¬ (len : Int) < (len : Int) := by omega
      have hst : ExSt w wr bf bn bd p q X Y (3 + 3 * len) (3 + 3 * len) := hst0
      have HXQ : Hid (p * Y = X * q) := by
        have h1 := HXX.out.1
        have h2 := HXX.out.2
        rw [dropP_end (by rw [HA.out.size]; omega)] at h1 h2
        rw [prodN, Int.mul_one] at h1
        rw [prodD, Int.mul_one] at h2
        show p * Y = X * q
        rw [h1, h2]; exact HX.out
      clear hst0 HXX hlt
      go_wp2
      refine wp_region_gen [] (fun d i u z => match i with
          | 0 => z = .agg #[.int .i64 p, .int .i64 q]
          | 1 => z = .bool true
          | 2 => z = .bool false
          | 3 => z = .bool false
          | 4 => z = .pointer (some ⟨bf, 0, none⟩)
          | 5 => z = .int .i64 p
          | 6 => IsWh u p 3 z
          | 7 => IsWh u Y (3 + 3 * len) z
          | 8 => IsWh u (p * Y) (3 + (3 + 3 * len)) z
          | 9 => IsWh u X (3 + 3 * len) z
          | 10 => z = .pointer (some ⟨bf, 1, none⟩)
          | 11 => z = .int .i64 q
          | 12 => IsWh u q 3 z
          | 13 => IsWh u (X * q) ((3 + 3 * len) + 3) z
          | 14 => z = .int .i64 0
          | 15 => z = .bool false
          | 16 => z = .bool false
          | _ => True) (fun d u => ExSt w u bf bn bd p q X Y (3 + 3 * len) (3 + 3 * len)) (by kernel_rfl) (by kernel_rfl) (by kernel_rfl) ?_ ?_ ?_ ?_ ?_ ?_ (by kernel_rfl)
      · intro d i w v w' h hb
        match i, h with
        | 0, h => exact h
        | 1, h => exact h
        | 2, h => exact h
        | 3, h => exact h
        | 4, h => exact h
        | 5, h => exact h
        | 6, h => exact IsWh.later h hb
        | 7, h => exact IsWh.later h hb
        | 8, h => exact IsWh.later h hb
        | 9, h => exact IsWh.later h hb
        | 10, h => exact h
        | 11, h => exact h
        | 12, h => exact IsWh.later h hb
        | 13, h => exact IsWh.later h hb
        | 14, h => exact h
        | 15, h => exact h
        | 16, h => exact h
        | _ + 17, _ => trivial
      · intro d u u' h hb
        exact h.later hb
      · exact hst
      · intro d i o ρ w' hm ho hf hg hC hcs hfs hfr hdep
        match i, hm, ho, hf, hg, hfr, hdep with
        | 0, _, ho, hf, hg, hfr, hdep =>
          simp only [List.getElem?_toArray, List.getElem?_cons_zero, Option.some.injEq] at ho
          subst ho
          refine ⟨fun _ => ?_, fun hw => absurd (show true = false from hw) (by decide)⟩
          have ts : ρ (.tmp 3) = .pointer (some ⟨bf, 0, none⟩) := hfr 3 (by kernel_rfl)
          have c0 := hC.vf.c0
          have c1 := hC.vf.c1
          simp [go_sem, ts, c0, c1]
          exact ⟨Below.refl _ _, rfl⟩
        | 1, _, ho, hf, hg, hfr, hdep =>
          simp only [List.getElem?_toArray, List.getElem?_cons_zero, List.getElem?_cons_succ, Option.some.injEq] at ho
          subst ho
          refine ⟨fun _ => ?_, fun hw => absurd (show true = false from hw) (by decide)⟩
          have d0 : ρ (.tmp 67) = .agg #[.int .i64 p, .int .i64 q] := hdep 0 67 (by kernel_rfl) (by kernel_rfl)
          simp [go_sem, d0, hfs]
          exact ⟨rfl, (VV.out _).mono (fun e w'' h => ⟨_, h.1, h.2, rfl⟩)⟩
        | 2, _, ho, hf, hg, hfr, hdep =>
          simp only [List.getElem?_toArray, List.getElem?_cons_zero, List.getElem?_cons_succ, Option.some.injEq] at ho
          subst ho
          refine ⟨fun _ => ?_, fun hw => absurd (show true = false from hw) (by decide)⟩
          have d0 : ρ (.tmp 68) = .bool true := hdep 1 68 (by kernel_rfl) (by kernel_rfl)
          simp [go_sem, d0]
          exact ⟨Below.refl _ _, rfl⟩
        | 3, _, ho, hf, hg, hfr, hdep =>
          simp only [List.getElem?_toArray, List.getElem?_cons_zero, List.getElem?_cons_succ, Option.some.injEq] at ho
          subst ho
          refine ⟨fun _ => ?_, fun hw => absurd (show true = false from hw) (by decide)⟩
          have d0 : ρ (.tmp 69) = .bool false := hdep 2 69 (by kernel_rfl) (by kernel_rfl)
          simp [go_sem, d0]
          exact ⟨Below.refl _ _, rfl⟩
        | 4, _, ho, hf, hg, hfr, hdep =>
          simp only [List.getElem?_toArray, List.getElem?_cons_zero, List.getElem?_cons_succ, Option.some.injEq] at ho
          subst ho
          have gd : ρ (.tmp 70) = .bool false := hdep 3 70 (by kernel_rfl) (by kernel_rfl)
          refine ⟨fun _ => ?_, fun hw => absurd (show (match ρ (.tmp 70) with | .bool c => c == false | _ => false) = false from hw) (by rw [gd]; decide)⟩
          clear gd
          have ts : ρ (.tmp 3) = .pointer (some ⟨bf, 0, none⟩) := hfr 3 (by kernel_rfl)
          simp [go_sem, ts]
          exact ⟨Below.refl _ _, rfl⟩
        | 5, _, ho, hf, hg, hfr, hdep =>
          simp only [List.getElem?_toArray, List.getElem?_cons_zero, List.getElem?_cons_succ, Option.some.injEq] at ho
          subst ho
          have gd : ρ (.tmp 70) = .bool false := hdep 3 70 (by kernel_rfl) (by kernel_rfl)
          refine ⟨fun _ => ?_, fun hw => absurd (show (match ρ (.tmp 70) with | .bool c => c == false | _ => false) = false from hw) (by rw [gd]; decide)⟩
          clear gd
          have c0 := hC.vf.c0
          have d0 : ρ (.tmp 71) = .pointer (some ⟨bf, 0, none⟩) := hdep 4 71 (by kernel_rfl) (by kernel_rfl)
          simp [go_sem, d0, c0]
          exact ⟨Below.refl _ _, rfl⟩
        | 6, _, ho, hf, hg, hfr, hdep =>
          simp only [List.getElem?_toArray, List.getElem?_cons_zero, List.getElem?_cons_succ, Option.some.injEq] at ho
          subst ho
          have gd : ρ (.tmp 70) = .bool false := hdep 3 70 (by kernel_rfl) (by kernel_rfl)
          refine ⟨fun _ => ?_, fun hw => absurd (show (match ρ (.tmp 70) with | .bool c => c == false | _ => false) = false from hw) (by rw [gd]; decide)⟩
          clear gd
          have ts : ρ (.tmp 72) = .int .i64 p := hdep 5 72 (by kernel_rfl) (by kernel_rfl)
          simp [go_sem, ts, hfs]
          exact ⟨rfl, of_said (of_any p _ hp2)⟩
        | 7, _, ho, hf, hg, hfr, hdep =>
          simp only [List.getElem?_toArray, List.getElem?_cons_zero, List.getElem?_cons_succ, Option.some.injEq] at ho
          subst ho
          have gd : ρ (.tmp 70) = .bool false := hdep 3 70 (by kernel_rfl) (by kernel_rfl)
          refine ⟨fun _ => ?_, fun hw => absurd (show (match ρ (.tmp 70) with | .bool c => c == false | _ => false) = false from hw) (by rw [gd]; decide)⟩
          clear gd
          obtain ⟨mm, aa, ll, pp, dd, hv, hw, hl⟩ := hC.vd
          have ts : ρ (.tmp 6) = .pointer (some ⟨bd, 0, none⟩) := hfr 6 (by kernel_rfl)
          have c0 := hv.c0
          have c1 := hv.c1
          simp [go_sem, ts, c0, c1]
          exact ⟨Below.refl _ _, mm, aa, ll, pp, dd, rfl, hw, hl⟩
        | 8, _, ho, hf, hg, hfr, hdep =>
          simp only [List.getElem?_toArray, List.getElem?_cons_zero, List.getElem?_cons_succ, Option.some.injEq] at ho
          subst ho
          have gd : ρ (.tmp 70) = .bool false := hdep 3 70 (by kernel_rfl) (by kernel_rfl)
          refine ⟨fun _ => ?_, fun hw => absurd (show (match ρ (.tmp 70) with | .bool c => c == false | _ => false) = false from hw) (by rw [gd]; decide)⟩
          clear gd
          obtain ⟨m0, a0, l0, p0, d0, e0, x0, y0⟩ : IsWh w' p 3 (ρ (.tmp 73)) := hdep 6 73 (by kernel_rfl) (by kernel_rfl)
          obtain ⟨m1, a1, l1, p1, d1, e1, x1, y1⟩ : IsWh w' Y (3 + 3 * len) (ρ (.tmp 74)) := hdep 7 74 (by kernel_rfl) (by kernel_rfl)
          simp [go_sem, e0, e1, hfs]
          exact ⟨rfl, times_said ⟨m0, a0, l0, p0, d0, rfl, x0, y0⟩ ⟨m1, a1, l1, p1, d1, rfl, x1, y1⟩ (by omega)⟩
        | 9, _, ho, hf, hg, hfr, hdep =>
          simp only [List.getElem?_toArray, List.getElem?_cons_zero, List.getElem?_cons_succ, Option.some.injEq] at ho
          subst ho
          have gd : ρ (.tmp 70) = .bool false := hdep 3 70 (by kernel_rfl) (by kernel_rfl)
          refine ⟨fun _ => ?_, fun hw => absurd (show (match ρ (.tmp 70) with | .bool c => c == false | _ => false) = false from hw) (by rw [gd]; decide)⟩
          clear gd
          obtain ⟨mm, aa, ll, pp, dd, hv, hw, hl⟩ := hC.vn
          have ts : ρ (.tmp 5) = .pointer (some ⟨bn, 0, none⟩) := hfr 5 (by kernel_rfl)
          have c0 := hv.c0
          have c1 := hv.c1
          simp [go_sem, ts, c0, c1]
          exact ⟨Below.refl _ _, mm, aa, ll, pp, dd, rfl, hw, hl⟩
        | 10, _, ho, hf, hg, hfr, hdep =>
          simp only [List.getElem?_toArray, List.getElem?_cons_zero, List.getElem?_cons_succ, Option.some.injEq] at ho
          subst ho
          have gd : ρ (.tmp 70) = .bool false := hdep 3 70 (by kernel_rfl) (by kernel_rfl)
          refine ⟨fun _ => ?_, fun hw => absurd (show (match ρ (.tmp 70) with | .bool c => c == false | _ => false) = false from hw) (by rw [gd]; decide)⟩
          clear gd
          have ts : ρ (.tmp 3) = .pointer (some ⟨bf, 0, none⟩) := hfr 3 (by kernel_rfl)
          simp [go_sem, ts]
          exact ⟨Below.refl _ _, rfl⟩
        | 11, _, ho, hf, hg, hfr, hdep =>
          simp only [List.getElem?_toArray, List.getElem?_cons_zero, List.getElem?_cons_succ, Option.some.injEq] at ho
          subst ho
          have gd : ρ (.tmp 70) = .bool false := hdep 3 70 (by kernel_rfl) (by kernel_rfl)
          refine ⟨fun _ => ?_, fun hw => absurd (show (match ρ (.tmp 70) with | .bool c => c == false | _ => false) = false from hw) (by rw [gd]; decide)⟩
          clear gd
          have c1 := hC.vf.c1
          have d0 : ρ (.tmp 77) = .pointer (some ⟨bf, 1, none⟩) := hdep 10 77 (by kernel_rfl) (by kernel_rfl)
          simp [go_sem, d0, c1]
          exact ⟨Below.refl _ _, rfl⟩
        | 12, _, ho, hf, hg, hfr, hdep =>
          simp only [List.getElem?_toArray, List.getElem?_cons_zero, List.getElem?_cons_succ, Option.some.injEq] at ho
          subst ho
          have gd : ρ (.tmp 70) = .bool false := hdep 3 70 (by kernel_rfl) (by kernel_rfl)
          refine ⟨fun _ => ?_, fun hw => absurd (show (match ρ (.tmp 70) with | .bool c => c == false | _ => false) = false from hw) (by rw [gd]; decide)⟩
          clear gd
          have ts : ρ (.tmp 78) = .int .i64 q := hdep 11 78 (by kernel_rfl) (by kernel_rfl)
          simp [go_sem, ts, hfs]
          exact ⟨rfl, of_said (of_any q _ hq2)⟩
        | 13, _, ho, hf, hg, hfr, hdep =>
          simp only [List.getElem?_toArray, List.getElem?_cons_zero, List.getElem?_cons_succ, Option.some.injEq] at ho
          subst ho
          have gd : ρ (.tmp 70) = .bool false := hdep 3 70 (by kernel_rfl) (by kernel_rfl)
          refine ⟨fun _ => ?_, fun hw => absurd (show (match ρ (.tmp 70) with | .bool c => c == false | _ => false) = false from hw) (by rw [gd]; decide)⟩
          clear gd
          obtain ⟨m0, a0, l0, p0, d0, e0, x0, y0⟩ : IsWh w' X (3 + 3 * len) (ρ (.tmp 76)) := hdep 9 76 (by kernel_rfl) (by kernel_rfl)
          obtain ⟨m1, a1, l1, p1, d1, e1, x1, y1⟩ : IsWh w' q 3 (ρ (.tmp 79)) := hdep 12 79 (by kernel_rfl) (by kernel_rfl)
          simp [go_sem, e0, e1, hfs]
          exact ⟨rfl, times_said ⟨m0, a0, l0, p0, d0, rfl, x0, y0⟩ ⟨m1, a1, l1, p1, d1, rfl, x1, y1⟩ (by omega)⟩
        | 14, _, ho, hf, hg, hfr, hdep =>
          simp only [List.getElem?_toArray, List.getElem?_cons_zero, List.getElem?_cons_succ, Option.some.injEq] at ho
          subst ho
          have gd : ρ (.tmp 70) = .bool false := hdep 3 70 (by kernel_rfl) (by kernel_rfl)
          refine ⟨fun _ => ?_, fun hw => absurd (show (match ρ (.tmp 70) with | .bool c => c == false | _ => false) = false from hw) (by rw [gd]; decide)⟩
          clear gd
          obtain ⟨m0, a0, l0, p0, d0, e0, x0, y0⟩ : IsWh w' (p * Y) (3 + (3 + 3 * len)) (ρ (.tmp 75)) := hdep 8 75 (by kernel_rfl) (by kernel_rfl)
          obtain ⟨m1, a1, l1, p1, d1, e1, x1, y1⟩ : IsWh w' (X * q) ((3 + 3 * len) + 3) (ρ (.tmp 80)) := hdep 13 80 (by kernel_rfl) (by kernel_rfl)
          simp [go_sem, e0, e1, hfs]
          refine ⟨rfl, (cmp_any _ _ _ _ _ _ _ _ _ _ _ _ _ x0 x1).mono (fun e w'' h => ⟨_, h.1, h.2, ?_⟩)⟩
          rw [cmpI_eq HXQ.out]
        | 15, _, ho, hf, hg, hfr, hdep =>
          simp only [List.getElem?_toArray, List.getElem?_cons_zero, List.getElem?_cons_succ, Option.some.injEq] at ho
          subst ho
          have gd : ρ (.tmp 70) = .bool false := hdep 3 70 (by kernel_rfl) (by kernel_rfl)
          refine ⟨fun _ => ?_, fun hw => absurd (show (match ρ (.tmp 70) with | .bool c => c == false | _ => false) = false from hw) (by rw [gd]; decide)⟩
          clear gd
          have d0 : ρ (.tmp 81) = .int .i64 0 := hdep 14 81 (by kernel_rfl) (by kernel_rfl)
          simp [go_sem, d0, hcs]
          exact ⟨Below.refl _ _, rfl⟩
        | 16, _, ho, hf, hg, hfr, hdep =>
          simp only [List.getElem?_toArray, List.getElem?_cons_zero, List.getElem?_cons_succ, Option.some.injEq] at ho
          subst ho
          refine ⟨fun _ => ?_, fun hw => absurd (show true = false from hw) (by decide)⟩
          have d0 : ρ (.tmp 70) = .bool false := hdep 3 70 (by kernel_rfl) (by kernel_rfl)
          have d1 : ρ (.tmp 82) = .bool false := hdep 15 82 (by kernel_rfl) (by kernel_rfl)
          simp [go_sem, d0, d1]
          exact ⟨Below.refl _ _, rfl⟩
        | n + 17, _, ho, _, _, _, _ => simp at ho
      · intro d i o ρ w' hm ho h0 hf hg hC hcs hfs hfr hdep
        exact absurd hm (by simp)
      · intro V w9 hC9 hS
        have e16 : V 16 = .bool false := hS 16 (by decide) (by intro h; cases h)
        simp only [puts, e16]
        simp only [Act.put, List.setIfInBounds_toArray, List.set_cons_zero, List.set_cons_succ]
        clear hS e16
        have hst2 : ExSt w w9 bf bn bd p q X Y (3 + 3 * len) (3 + 3 * len) := hC9
        clear hC9 hst
        have x0 := hst2.vf.c0
        have x1 := hst2.vf.c1
        have hB9 := hst2.bel
        have VF9 := hst2.vf
        cases len with
        | zero =>
          have e0 : fs = [] := List.eq_nil_of_length_eq_zero HA.out.size
          have HPQ : p = 1 ∧ q = 1 := by
            have := HOO.out.2
            rw [e0] at this
            cases this
            exact ⟨rfl, rfl⟩
          obtain ⟨rfl, rfl⟩ := HPQ
          clear hst2
          go_wp2_with (go_at_call 22; (with_reducible refine (awake2 _).mono ?_); rintro e wa ⟨rfl, hba⟩; have VA := VF9.later hba VF9.lt; have y0 := VA.c0; have y1 := VA.c1)
          go_ret
          exact ⟨rfl, hB9.trans (hba.mono hB9.size)⟩
        | succ j =>
          clear hst2
          obtain ⟨len, hjl⟩ : ∃ len, j + 1 = len := ⟨_, rfl⟩
          have hj0 : (len : Int) - 1 = (j : Int) := by omega
          have hjw : IntKind.i64.wrap (j : Int) = (j : Int) := by rw [IntKind.wrap_i64]; omega
          have hji : (j : Int) < (len : Int) := by omega
          have hj3 : (j : Int) ≤ (cap : Int) := by have := HA.out.room; omega
          have hl0 : ((len : Int) == 0) = false := by simp; omega
          have HAJ : Hid (ArgP w a j cap (fs.take j)) := HA.out.init
          have hlj := take_last HA.out.size
          obtain ⟨r, s, h1, hvr, ⟨fr1, fr2⟩, h2⟩ := mulO_init (fs := fs.take j) (f := (nthN fs j, nthD fs j)) (p := p) (q := q) (by rw [hlj]; exact HOO.out.1) (by rw [hlj]; exact HOO.out.2)
          have hal1 : allB (fs.take j) = true := by
            have := HOO.out.1
            rw [← hlj, allB_append, Bool.and_eq_true] at this
            exact this.1
          have hal2 : validB (nthN fs j) (nthD fs j) = true := allB_nth HOO.out.1 (by rw [HA.out.size]; omega)
          have M2 : Hid (∀ g c W, AtP W (some ⟨g, 0, none⟩) (fs.take j) → Calls Try.prog 24 #[.slice (some ⟨g, 0, none⟩) j c] W fun e w' => e = .returned (.tuple #[.agg #[.int .i64 r, .int .i64 s], .int .i64 0]) ∧ Below W.heap.size W w') := fun g c W h => by
            have := mul_frac (some ⟨g, 0, none⟩) (fs.take j) j c W HAJ.out.size (by omega) HAJ.out.fits h
            unfold MulEnd at this
            rw [show mulN (fs.take j) = r by unfold mulN; rw [hal1, h1]; rfl, show mulD (fs.take j) = s by unfold mulD; rw [hal1, h1]; rfl, show mulE (fs.take j) = 0 by unfold mulE; rw [hal1, h1]; rfl] at this
            exact this
          have M3 : Hid (∀ x W, AtP W x [(r, s), (nthN fs j, nthD fs j)] → Calls Try.prog 24 #[.slice x 2 2] W fun e w' => e = .returned (.tuple #[.agg #[.int .i64 p, .int .i64 q], .int .i64 0]) ∧ Below W.heap.size W w') := fun x W h => by
            have := mul_frac x [(r, s), (nthN fs j, nthD fs j)] 2 2 W rfl (by decide) (inRP2 (fit_rng fr1) (fit_rng fr2) (HA.out.fits j).1 (HA.out.fits j).2) h
            unfold MulEnd at this
            have hal : allB [(r, s), (nthN fs j, nthD fs j)] = true := by simp [allB, hvr, hal2]
            rw [show mulN [(r, s), (nthN fs j, nthD fs j)] = p by unfold mulN; rw [hal, h2]; rfl, show mulD [(r, s), (nthN fs j, nthD fs j)] = q by unfold mulD; rw [hal, h2]; rfl, show mulE [(r, s), (nthN fs j, nthD fs j)] = 0 by unfold mulE; rw [hal, h2]; rfl] at this
            exact this
          obtain ⟨b, off, rfl, hc⟩ := HA.out.lies.resolve_left (fun e => by have := HA.out.size; rw [e] at this; simp at this)
          have hck := hc j (by rw [HA.out.size]; omega)
          have hblt := block_lt_of_cell hck.1
          have HC0 : Hid (∀ W', Below w.heap.size w W' → W'.cell? ⟨b, off + j * 2, none⟩ = some (.int .i64 (nthN fs j))) := fun W' h => by rw [h.cell (p := ⟨b, off + j * 2, none⟩) hblt]; exact hck.1
          have HC1 : Hid (∀ W', Below w.heap.size w W' → W'.cell? ⟨b, off + j * 2 + 1, none⟩ = some (.int .i64 (nthD fs j))) := fun W' h => by rw [h.cell (p := ⟨b, off + j * 2 + 1, none⟩) hblt]; exact hck.2
          have HL2 : Hid (∀ W, ArgP W (some ⟨b, off, none⟩) j cap (fs.take j) → Calls Try.prog 17 #[.slice (some ⟨b, off, none⟩) j cap] W (LentP W j (fs.take j))) := fun W h => lentP_any _ _ _ _ W h
          clear hlj h1 hvr fr1 fr2 h2 hal1 hal2 hc hck hblt HOO VK VV M1 HX HXQ hkk
          generalize nthN fs j = lz at *
          generalize nthD fs j = lv at *
          rw [hjl]
          go_wp2_with (first
            | (go_at_call 17; (with_reducible refine (HL2.out w9 (HAJ.out.below hB9)).mono ?_); rintro e w10 ⟨g2, capg2, rfl, hcg2, hL2, b10⟩)
            | (go_at_call 24; (with_reducible refine (M2.out _ _ _ hL2.at).mono ?_); rintro e w11 ⟨rfl, b11⟩))
          have N11 := b10.trans (b11.mono b10.size)
          have A11 : Below w11.heap.size w11 (w11.alloc (.cells #[.int .i64 r, .int .i64 s] 24)) := (Below.refl _ _).alloc (Nat.le_refl _) _
          have N12 := N11.trans (A11.mono N11.size)
          obtain ⟨B0, hB0⟩ : ∃ B0, B0 = (w11.alloc (.cells #[.int .i64 r, .int .i64 s] 24)).heap.size := ⟨_, rfl⟩
          obtain ⟨bg, hbg⟩ : ∃ bg, w11.heap.size = bg := ⟨_, rfl⟩
          have hst : Ex2 w (w11.alloc (.cells #[.int .i64 r, .int .i64 s] 24)) bf bg p q r s B0 := by
            have V12 := VF9.later N12 VF9.lt
            have B12 := hB9.trans (N12.mono hB9.size)
            have s12 := B12.size
            exact ⟨V12, hbg ▸ var2_new _ _ _ _, B12, ⟨by omega, by have := V12.lt; omega, by rw [hB0, ← hbg]; simp⟩, by omega⟩
          rw [hbg]
          clear N11 A11 N12 hB0 VF9 hB9 b10 b11 x0 x1 hL2 hcg2 M2 HL2 HAJ
          generalize w11.alloc (.cells #[.int .i64 r, .int .i64 s] 24) = W12 at *
          refine wp_region_gen [13] (fun d i u z => match i with
              | 0 => z = .agg #[.int .i64 r, .int .i64 s]
              | 1 => z = .slice (some ⟨b, off, none⟩) len cap
              | 2 => z = .slice (some ⟨b, off, none⟩) len cap
              | 3 => z = .int .i64 (len : Int)
              | 4 => z = .int .i64 (j : Int)
              | 5 => z = .pointer (some ⟨b, off + j * 2, none⟩)
              | 6 => z = .agg #[.int .i64 lz, .int .i64 lv]
              | 7 => d 13 = false → ∃ b, z = .slice (some ⟨b, 0, none⟩) 2 2 ∧ AtP u (some ⟨b, 0, none⟩) [(r, s), (lz, lv)]
              | 8 => z = .tuple #[.agg #[.int .i64 p, .int .i64 q], .int .i64 0]
              | 9 => z = .tuple #[.agg #[.int .i64 p, .int .i64 q], .int .i64 0]
              | 10 => z = .agg #[.int .i64 p, .int .i64 q]
              | 11 => z = .int .i64 0
              | 12 => IsNew B0 u (.int .i64 (if d 13 = true then p else 0)) (.int .i64 (if d 13 = true then q else 0)) z
              | 13 => True
              | 14 => z = .int .i64 0
              | _ => True) (fun d u => Ex2 w u bf bg p q r s B0) (by kernel_rfl) (by kernel_rfl) (by kernel_rfl) ?_ ?_ ?_ ?_ ?_ ?_ (by kernel_rfl)
          · intro d i w v w' h hb
            match i, h with
            | 0, h => exact h
            | 1, h => exact h
            | 2, h => exact h
            | 3, h => exact h
            | 4, h => exact h
            | 5, h => exact h
            | 6, h => exact h
            | 7, h => exact fun hd => (h hd).imp fun _ hx => ⟨hx.1, hx.2.below hb⟩
            | 8, h => exact h
            | 9, h => exact h
            | 10, h => exact h
            | 11, h => exact h
            | 12, h => exact IsNew.later h hb
            | 13, h => trivial
            | 14, h => exact h
            | _ + 15, _ => trivial
          · intro d u u' h hb
            exact h.later hb
          · exact hst
          · intro d i o ρ w' hm ho hf hg hC hcs hfs hfr hdep
            match i, hm, ho, hf, hg, hfr, hdep with
            | 0, _, ho, hf, hg, hfr, hdep =>
              simp only [List.getElem?_toArray, List.getElem?_cons_zero, Option.some.injEq] at ho
              subst ho
              refine ⟨fun _ => ?_, fun hw => absurd (show true = false from hw) (by decide)⟩
              have ts : ρ (.tmp 8) = .pointer (some ⟨bg, 0, none⟩) := hfr 8 (by kernel_rfl)
              have c0 := hC.vg.c0
              have c1 := hC.vg.c1
              simp [go_sem, ts, c0, c1]
              exact ⟨Below.refl _ _, rfl⟩
            | 1, _, ho, hf, hg, hfr, hdep =>
              simp only [List.getElem?_toArray, List.getElem?_cons_zero, List.getElem?_cons_succ, Option.some.injEq] at ho
              subst ho
              refine ⟨fun _ => ?_, fun hw => absurd (show true = false from hw) (by decide)⟩
              have ts : ρ (.tmp 0) = .slice (some ⟨b, off, none⟩) len cap := hfr 0 (by kernel_rfl)
              simp [go_sem, ts]
              exact ⟨Below.refl _ _, rfl⟩
            | 2, _, ho, hf, hg, hfr, hdep =>
              simp only [List.getElem?_toArray, List.getElem?_cons_zero, List.getElem?_cons_succ, Option.some.injEq] at ho
              subst ho
              refine ⟨fun _ => ?_, fun hw => absurd (show true = false from hw) (by decide)⟩
              have ts : ρ (.tmp 0) = .slice (some ⟨b, off, none⟩) len cap := hfr 0 (by kernel_rfl)
              simp [go_sem, ts]
              exact ⟨Below.refl _ _, rfl⟩
            | 3, _, ho, hf, hg, hfr, hdep =>
              simp only [List.getElem?_toArray, List.getElem?_cons_zero, List.getElem?_cons_succ, Option.some.injEq] at ho
              subst ho
              refine ⟨fun _ => ?_, fun hw => absurd (show true = false from hw) (by decide)⟩
              have d0 : ρ (.tmp 106) = .slice (some ⟨b, off, none⟩) len cap := hdep 2 106 (by kernel_rfl) (by kernel_rfl)
              simp [go_sem, d0]
              exact ⟨Below.refl _ _, rfl⟩
            | 4, _, ho, hf, hg, hfr, hdep =>
              simp only [List.getElem?_toArray, List.getElem?_cons_zero, List.getElem?_cons_succ, Option.some.injEq] at ho
              subst ho
              refine ⟨fun _ => ?_, fun hw => absurd (show true = false from hw) (by decide)⟩
              have d0 : ρ (.tmp 107) = .int .i64 (len : Int) := hdep 3 107 (by kernel_rfl) (by kernel_rfl)
              simp [go_sem, d0, hcs, hj0, hjw]
              exact ⟨Below.refl _ _, rfl⟩
            | 5, _, ho, hf, hg, hfr, hdep =>
              simp only [List.getElem?_toArray, List.getElem?_cons_zero, List.getElem?_cons_succ, Option.some.injEq] at ho
              subst ho
              refine ⟨fun _ => ?_, fun hw => absurd (show true = false from hw) (by decide)⟩
              have d0 : ρ (.tmp 105) = .slice (some ⟨b, off, none⟩) len cap := hdep 1 105 (by kernel_rfl) (by kernel_rfl)
              have d1 : ρ (.tmp 108) = .int .i64 (j : Int) := hdep 4 108 (by kernel_rfl) (by kernel_rfl)
              simp [go_sem, d0, d1, hji]
              exact ⟨Below.refl _ _, rfl⟩
            | 6, _, ho, hf, hg, hfr, hdep =>
              simp only [List.getElem?_toArray, List.getElem?_cons_zero, List.getElem?_cons_succ, Option.some.injEq] at ho
              subst ho
              refine ⟨fun _ => ?_, fun hw => absurd (show true = false from hw) (by decide)⟩
              have c0 := HC0.out w' hC.bel
              have c1 := HC1.out w' hC.bel
              have d0 : ρ (.tmp 109) = .pointer (some ⟨b, off + j * 2, none⟩) := hdep 5 109 (by kernel_rfl) (by kernel_rfl)
              simp [go_sem, d0, c0, c1]
              exact ⟨Below.refl _ _, rfl⟩
            | 7, _, ho, hf, hg, hfr, hdep =>
              simp only [List.getElem?_toArray, List.getElem?_cons_zero, List.getElem?_cons_succ, Option.some.injEq] at ho
              subst ho
              refine ⟨fun _ => ?_, fun hw => absurd (show true = false from hw) (by decide)⟩
              have d0 : ρ (.tmp 104) = .agg #[.int .i64 r, .int .i64 s] := hdep 0 104 (by kernel_rfl) (by kernel_rfl)
              have d1 : ρ (.tmp 110) = .agg #[.int .i64 lz, .int .i64 lv] := hdep 6 110 (by kernel_rfl) (by kernel_rfl)
              simp [go_sem, d0, d1]
              exact ⟨(Below.refl _ _).alloc (Nat.le_refl _) _, fun _ => ⟨_, rfl, atP2 rfl⟩⟩
            | 8, _, ho, hf, hg, hfr, hdep =>
              simp only [List.getElem?_toArray, List.getElem?_cons_zero, List.getElem?_cons_succ, Option.some.injEq] at ho
              subst ho
              refine ⟨fun _ => ?_, fun hw => absurd (show true = false from hw) (by decide)⟩
              have hd : d 13 = false := hf 13 (by decide) (by kernel_rfl)
              obtain ⟨b1, e1, x1⟩ := hdep 7 111 (by kernel_rfl) (by kernel_rfl) hd
              simp [go_sem, e1, hfs]
              exact ⟨rfl, (M3.out _ _ x1).mono (fun e w'' h => ⟨_, h.1, h.2, rfl⟩)⟩
            | 9, _, ho, hf, hg, hfr, hdep =>
              simp only [List.getElem?_toArray, List.getElem?_cons_zero, List.getElem?_cons_succ, Option.some.injEq] at ho
              subst ho
              refine ⟨fun _ => ?_, fun hw => absurd (show true = false from hw) (by decide)⟩
              have d0 : ρ (.tmp 112) = .tuple #[.agg #[.int .i64 p, .int .i64 q], .int .i64 0] := hdep 8 112 (by kernel_rfl) (by kernel_rfl)
              simp [go_sem, d0]
              exact ⟨Below.refl _ _, rfl⟩
            | 10, _, ho, hf, hg, hfr, hdep =>
              simp only [List.getElem?_toArray, List.getElem?_cons_zero, List.getElem?_cons_succ, Option.some.injEq] at ho
              subst ho
              refine ⟨fun _ => ?_, fun hw => absurd (show true = false from hw) (by decide)⟩
              have d0 : ρ (.tmp 103) = .tuple #[.agg #[.int .i64 p, .int .i64 q], .int .i64 0] := hdep 9 103 (by kernel_rfl) (by kernel_rfl)
              simp [go_sem, d0]
              exact ⟨Below.refl _ _, rfl⟩
            | 11, _, ho, hf, hg, hfr, hdep =>
              simp only [List.getElem?_toArray, List.getElem?_cons_zero, List.getElem?_cons_succ, Option.some.injEq] at ho
              subst ho
              refine ⟨fun _ => ?_, fun hw => absurd (show true = false from hw) (by decide)⟩
              have d0 : ρ (.tmp 103) = .tuple #[.agg #[.int .i64 p, .int .i64 q], .int .i64 0] := hdep 9 103 (by kernel_rfl) (by kernel_rfl)
              simp [go_sem, d0]
              exact ⟨Below.refl _ _, rfl⟩
            | 12, _, ho, hf, hg, hfr, hdep =>
              simp only [List.getElem?_toArray, List.getElem?_cons_zero, List.getElem?_cons_succ, Option.some.injEq] at ho
              subst ho
              refine ⟨fun _ => ?_, fun hw => absurd (show true = false from hw) (by decide)⟩
              have hd : d 13 = false := hf 13 (by decide) (by kernel_rfl)
              simp [go_sem, hd]
              exact ⟨(Below.refl _ _).alloc (Nat.le_refl _) _, _, rfl, var2_new _ _ _ _, hC.big⟩
            | 13, hm, _, _, _, _, _ => exact absurd hm (by decide)
            | 14, _, ho, hf, hg, hfr, hdep =>
              simp only [List.getElem?_toArray, List.getElem?_cons_zero, List.getElem?_cons_succ, Option.some.injEq] at ho
              subst ho
              refine ⟨fun _ => ?_, fun hw => absurd (show true = false from hw) (by decide)⟩
              have d0 : ρ (.tmp 114) = .int .i64 0 := hdep 11 114 (by kernel_rfl) (by kernel_rfl)
              simp [go_sem, d0]
              exact ⟨Below.refl _ _, rfl⟩
            | n + 15, _, ho, _, _, _, _ => simp at ho
          · intro d i o ρ w' hm ho h0 hf hg hC hcs hfs hfr hdep
            match i, hm, ho, h0, hf, hg, hfr, hdep with
            | 0, hm, _, _, _, _, _, _ => exact absurd hm (by decide)
            | 1, hm, _, _, _, _, _, _ => exact absurd hm (by decide)
            | 2, hm, _, _, _, _, _, _ => exact absurd hm (by decide)
            | 3, hm, _, _, _, _, _, _ => exact absurd hm (by decide)
            | 4, hm, _, _, _, _, _, _ => exact absurd hm (by decide)
            | 5, hm, _, _, _, _, _, _ => exact absurd hm (by decide)
            | 6, hm, _, _, _, _, _, _ => exact absurd hm (by decide)
            | 7, hm, _, _, _, _, _, _ => exact absurd hm (by decide)
            | 8, hm, _, _, _, _, _, _ => exact absurd hm (by decide)
            | 9, hm, _, _, _, _, _, _ => exact absurd hm (by decide)
            | 10, hm, _, _, _, _, _, _ => exact absurd hm (by decide)
            | 11, hm, _, _, _, _, _, _ => exact absurd hm (by decide)
            | 12, hm, _, _, _, _, _, _ => exact absurd hm (by decide)
            | 13, _, ho, h0, hf, hg, hfr, hdep =>
              simp only [List.getElem?_toArray, List.getElem?_cons_zero, List.getElem?_cons_succ, Option.some.injEq] at ho
              subst ho
              obtain ⟨bb, e1, hv, hB⟩ := hdep 12 10 (by kernel_rfl) (by kernel_rfl)
              have d1 : ρ (.tmp 113) = .agg #[.int .i64 p, .int .i64 q] := hdep 10 113 (by kernel_rfl) (by kernel_rfl)
              rw [h0] at hv
              simp only [Bool.false_eq_true, if_false] at hv
              have c0 := hv.c0
              have c1 := hv.c1
              have f0 := hv.f0
              have f1 := hv.f1
              have c1' : (w'.setCell ⟨bb, 0, none⟩ (.int .i64 p)).cell? ⟨bb, 1, none⟩ = some (.int .i64 0) := by rw [World.cell?_setCell_other _ _ _ _ (by simp)]; exact c1
              refine ⟨rfl, ?_⟩
              have hrun : (execOp ρ { dst := none, op := Op.store 24 (Operand.tmp 10) (Operand.tmp 113), type := 0, pos := "", after := #[], guard := none }).run Try.prog w' = .ok .skip ((w'.setCell ⟨bb, 0, none⟩ (.int .i64 p)).setCell ⟨bb, 1, none⟩ (.int .i64 q)) := by simp [go_sem, e1, d1, c0, f0, f1, c1']
              refine markUpon_skip hrun ⟨hC.set hB _ _, fun h => absurd rfl h, fun j t ht hs => ?_⟩
              match j, ht, hs with
              | 0, _, hs => exact hs
              | 1, _, hs => exact hs
              | 2, _, hs => exact hs
              | 3, _, hs => exact hs
              | 4, _, hs => exact hs
              | 5, _, hs => exact hs
              | 6, _, hs => exact hs
              | 7, _, _ => exact fun h => absurd (show true = false from h) (by decide)
              | 8, _, hs => exact hs
              | 9, _, hs => exact hs
              | 10, _, hs => exact hs
              | 11, _, hs => exact hs
              | 12, ht, hs =>
                have ht2 : some 10 = some t := ht
                cases ht2
                exact ⟨bb, e1, hv.put _ _, hB⟩
              | 13, _, _ => trivial
              | 14, _, hs => exact hs
              | _ + 15, _, _ => trivial
            | 14, hm, _, _, _, _, _, _ => exact absurd hm (by decide)
            | n + 15, _, ho, _, _, _, _, _ => simp at ho
          · intro V w9 hC9 hS
            obtain ⟨bi, e12, Vi, Bi⟩ : IsNew B0 w9 (.int .i64 p) (.int .i64 q) (V 12) := hS 12 (by decide) (by intro h; cases h)
            have e14 : V 14 = .int .i64 0 := hS 14 (by decide) (by intro h; cases h)
            simp only [puts, put_none, e12, e14]
            simp only [Act.put, List.setIfInBounds_toArray, List.set_cons_zero, List.set_cons_succ]
            clear hS e12 e14
            have hE : Ex2 w w9 bf bg p q r s B0 := hC9
            have VF := hE.vf
            have hBe := hE.bel
            clear hC9 hst hE
            go_wp2_with (go_at_call 22; (with_reducible refine (awake2 _).mono ?_); rintro e wa ⟨rfl, hba⟩; have VA := VF.later hba VF.lt; have y0 := VA.c0; have y1 := VA.c1; have VI := Vi.later hba Vi.lt; have z0 := VI.c0; have z1 := VI.c1)
            go_ret
            exact ⟨rfl, hBe.trans (hba.mono hBe.size)⟩

set_option maxRecDepth 100000 in
set_option maxHeartbeats 1000000 in
theorem exact_any (a : Option Addr) (len cap : Nat) (fs : List (Int × Int)) (w : World) (hA : ArgP w a len cap fs) :
    Calls Try.prog 6 #[.slice a len cap] w fun e w' => e = .returned (.bool true) ∧ Below w.heap.size w w' := by
  by_cases hlen : len ≤ 300
  · by_cases hok : allB fs = true ∧ ∃ p q, mulO 1 1 fs = some (p, q)
    · obtain ⟨h1, p, q, h2⟩ := hok
      exact exact_ok a len cap fs w hA hlen h1 p q h2
    · have hm : mulN fs = 0 ∧ mulD fs = 0 ∧ (mulE fs = 1 ∨ mulE fs = 4) := by
        unfold mulN mulD mulE
        cases hB : allB fs
        · exact ⟨rfl, rfl, .inl rfl⟩
        · cases hO : mulO 1 1 fs with
          | none => exact ⟨rfl, rfl, .inr rfl⟩
          | some x => exact absurd ⟨hB, x.1, x.2, hO⟩ hok
      have hlent := lentP_any a fs len cap w hA
      have M1 : Hid (∀ g c W, AtP W (some ⟨g, 0, none⟩) fs → Calls Try.prog 24 #[.slice (some ⟨g, 0, none⟩) len c] W fun e w' => e = .returned (.tuple #[.agg #[.int .i64 0, .int .i64 0], .int .i64 (mulE fs)]) ∧ Below W.heap.size W w') := fun g c W h => by
        have := mul_frac (some ⟨g, 0, none⟩) fs len c W hA.size (by omega) hA.fits h
        unfold MulEnd at this
        rw [hm.1, hm.2.1] at this
        exact this
      have hl3 : decide ((300 : Int) < (len : Int)) = false := decide_eq_false (by omega)
      have hE := hm.2.2
      clear hm hok hA
      rcases hE with hE | hE
      all_goals
        rw [hE] at M1
        clear hE
        go_enter Try.func6, Try.ntmps6
        go_wp2_with (first
          | (go_at_call 17; (with_reducible refine hlent.mono ?_); rintro e w0 ⟨g, capg, rfl, hcg, hL, B0⟩)
          | (go_at_call 24; (with_reducible refine (M1.out _ _ _ hL.at).mono ?_); rintro e w1 ⟨rfl, hb1⟩; have B1' := B0.trans (hb1.mono B0.size); have B1 := B1'.alloc B1'.size (.cells #[.int .i64 0, .int .i64 0] 24); have U1 := var2_new w1 (.int .i64 0) (.int .i64 0) 24)
          | (go_at_call 22; (with_reducible refine (awake2 _).mono ?_); rintro e wa ⟨rfl, hba⟩; have VA := U1.later hba U1.lt; have y0 := VA.c0; have y1 := VA.c1))
        go_ret
        exact ⟨rfl, B1.trans (hba.mono B1.size)⟩
  · have hl3 : decide ((300 : Int) < (len : Int)) = true := decide_eq_true (by omega)
    clear hA hlen
    go_enter Try.func6, Try.ntmps6
    go_wp2
    go_ret
    exact ⟨rfl, Below.refl _ _⟩
end Go.Proofs.Ytgjeihdibcjjcab

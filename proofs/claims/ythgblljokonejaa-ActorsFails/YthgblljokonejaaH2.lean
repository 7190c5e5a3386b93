/- Shape's rates and Of. (Written by tmpl/mkH2.py.) -/
import Derived.Test.YthgblljokonejaaH1
namespace Go.Proofs.Ythgblljokonejaa
open Go.ChangeShapes Go.WideShapes Go.ChangeAt Go.RowKit

/-- One number laid for a call; a new row. -/
def Pt (u : World) (x : Int) (v : Value) : Prop := ∃ g, v = .slice (some ⟨g, 0, none⟩) 1 1 ∧ At u (some ⟨g, 0, none⟩) [x]
def Mk (B : Nat) (u : World) (zs : List Int) (v : Value) : Prop := ∃ a c, v = .slice a zs.length c ∧ CapR B u a c zs
theorem Pt.later {u u' : World} {x : Int} {v : Value} (h : Pt u x v) (hb : Below u.heap.size u u') : Pt u' x v := by
  obtain ⟨g, e, h⟩ := h
  exact ⟨g, e, h.below hb⟩
theorem Mk.later {B : Nat} {u u' : World} {zs : List Int} {v : Value} (h : Mk B u zs v) (hb : Below u.heap.size u u') : Mk B u' zs v := by
  obtain ⟨a, c, e, h⟩ := h
  exact ⟨a, c, e, h.later hb⟩
theorem at1n (V : World) (x : Int) (t : TypeId) : At (V.alloc (.cells #[.int .i64 x] t)) (some ⟨V.heap.size, 0, none⟩) [x] := by
  refine Or.inr ⟨_, _, rfl, fun k hk => ?_⟩
  match k, hk with
  | 0, _ => exact by simp [nth]
theorem pt_new (V : World) (x : Int) (t : TypeId) : Pt (V.alloc (.cells #[.int .i64 x] t)) x (.slice (some ⟨V.heap.size, 0, none⟩) 1 1) := ⟨_, rfl, at1n V x t⟩
theorem said_of {f : FuncId} {args : Array Value} {w : World} {zs : List Int} {B : Nat} (h : Calls Try.prog f args w (RowEnd w zs)) (hB : B ≤ w.heap.size) : Calls Try.prog f args w (fun e w' => ∃ v, e = .returned v ∧ Below w.heap.size w w' ∧ Mk B w' zs v) :=
  h.mono fun _ _ ⟨a, c, he, hc, hb⟩ => ⟨_, he, hb, a, c, rfl, hc.mono hB⟩
theorem alike_rep (n x : Int) (w : World) (h : 1 ≤ n ∧ n ≤ 16) : Calls Try.prog 72 #[.int .i64 n, .int .i64 x] w (RowEnd w (rep n x)) := by
  have e : n = ((n.toNat : Nat) : Int) := by omega
  unfold rep
  have := alike_any n.toNat x w (by omega)
  rw [← e] at this
  exact this
/-- Two new rows, the second made behind the first. -/
def TwoEnd (w : World) (P Q : List Int) (e : Ending) (w' : World) : Prop :=
  ∃ a c1 b c2, e = .returned (.tuple #[.slice a P.length c1, .slice b Q.length c2]) ∧ CapR w.heap.size w' a c1 P ∧ CapR w.heap.size w' b c2 Q ∧ (∀ x y, a = some x → b = some y → x.block < y.block) ∧ Below w.heap.size w w'
theorem two_end {w w1 w2 : World} {B : Nat} {P Q : List Int} {a b : Option Addr} {c1 c2 : Nat} (hB : B = w.heap.size) (h1 : CapR B w1 a c1 P) (hb1 : Below B w w1) (h2 : CapR w1.heap.size w2 b c2 Q) (hb2 : Below w1.heap.size w1 w2) :
    CapR w.heap.size w2 a c1 P ∧ CapR w.heap.size w2 b c2 Q ∧ (∀ x y, a = some x → b = some y → x.block < y.block) ∧ Below w.heap.size w w2 := by
  subst hB
  refine ⟨h1.later hb2, h2.mono hb1.size, fun x y hx hy => ?_, hb1.trans (hb2.mono hb1.size)⟩
  have := (h1.lt x hx).2
  have := (h2.lt y hy).1
  omega
theorem ports_one (g : Nat) (x : Int) (w : World) (h : At w (some ⟨g, 0, none⟩) [x]) : Calls Try.prog 71 #[.slice (some ⟨g, 0, none⟩) 1 1] w fun e w' => ∃ a c, e = .returned (.slice a 1 c) ∧ CapR w.heap.size w' a c [x] ∧ Below w.heap.size w w' :=
  ports_any g [x] 1 w (by simp) h
theorem ports1 (x : Int) (V : World) (t : TypeId) : Calls Try.prog 71 #[.slice (some ⟨V.heap.size, 0, none⟩) 1 1] (V.alloc (.cells #[.int .i64 x] t)) fun e w' => ∃ a c, e = .returned (.slice a 1 c) ∧ CapR V.heap.size w' a c [x] ∧ Below V.heap.size V w' :=
  (ports_any V.heap.size [x] 1 _ (by simp) (at1n V x t)).mono fun _ _ ⟨a, c, he, hc, hb⟩ => ⟨a, c, he, hc.mono (by simp), ((Below.refl V.heap.size V).alloc (Nat.le_refl _) _).trans (hb.mono (by simp))⟩
theorem ports2 (x y : Int) (V : World) (t : TypeId) : Calls Try.prog 71 #[.slice (some ⟨V.heap.size, 0, none⟩) 2 2] (V.alloc (.cells #[.int .i64 x, .int .i64 y] t)) fun e w' => ∃ a c, e = .returned (.slice a 2 c) ∧ CapR V.heap.size w' a c [x, y] ∧ Below V.heap.size V w' :=
  (ports_any V.heap.size [x, y] 2 _ (by simp) (at2n rfl)).mono fun _ _ ⟨a, c, he, hc, hb⟩ => ⟨a, c, he, hc.mono (by simp), ((Below.refl V.heap.size V).alloc (Nat.le_refl _) _).trans (hb.mono (by simp))⟩
theorem wrap_id {x : Int} (h1 : -9223372036854775808 ≤ x) (h2 : x ≤ 9223372036854775807) : IntKind.i64.wrap x = x := by
  rw [IntKind.wrap_i64]
  omega
set_option maxRecDepth 100000 in
set_option maxHeartbeats 2000000 in
theorem rates_1 (a : Option Addr) (zs : List Int) (len cap : Nat) (w : World) :
    Calls Try.prog 41 #[.int .u8 1, .slice a len cap] w (TwoEnd w (insS 1 zs) (outsS 1 zs)) := by
  show Calls _ _ _ _ (TwoEnd w [1] [1])
  go_enter Try.func41, Try.ntmps41
  go_wp2_with (first
    | (go_at_call 71; (with_reducible refine (ports1 _ w1 _).mono ?_); rintro e w2 ⟨a2, n2, rfl, m2, b2⟩)
    | (go_at_call 71; (with_reducible refine (ports1 _ _ _).mono ?_); rintro e w1 ⟨a1, n1, rfl, m1, b1⟩))
  go_ret2
  exact ⟨a1, n1, a2, n2, rfl, two_end rfl m1 b1 m2 b2⟩
set_option maxRecDepth 100000 in
set_option maxHeartbeats 2000000 in
theorem rates_7 (a : Option Addr) (zs : List Int) (len cap : Nat) (w : World) :
    Calls Try.prog 41 #[.int .u8 7, .slice a len cap] w (TwoEnd w (insS 7 zs) (outsS 7 zs)) := by
  show Calls _ _ _ _ (TwoEnd w [1, 1] [1])
  go_enter Try.func41, Try.ntmps41
  go_wp2_with (first
    | (go_at_call 71; (with_reducible refine (ports1 _ w1 _).mono ?_); rintro e w2 ⟨a2, n2, rfl, m2, b2⟩)
    | (go_at_call 71; (with_reducible refine (ports2 _ _ _ _).mono ?_); rintro e w1 ⟨a1, n1, rfl, m1, b1⟩))
  go_ret2
  exact ⟨a1, n1, a2, n2, rfl, two_end rfl m1 b1 m2 b2⟩
set_option maxRecDepth 100000 in
set_option maxHeartbeats 2000000 in
theorem rates_8 (a : Option Addr) (zs : List Int) (len cap : Nat) (w : World) :
    Calls Try.prog 41 #[.int .u8 8, .slice a len cap] w (TwoEnd w (insS 8 zs) (outsS 8 zs)) := by
  show Calls _ _ _ _ (TwoEnd w [1] [1])
  go_enter Try.func41, Try.ntmps41
  go_wp2_with (first
    | (go_at_call 71; (with_reducible refine (ports1 _ w1 _).mono ?_); rintro e w2 ⟨a2, n2, rfl, m2, b2⟩)
    | (go_at_call 71; (with_reducible refine (ports1 _ _ _).mono ?_); rintro e w1 ⟨a1, n1, rfl, m1, b1⟩))
  go_ret2
  exact ⟨a1, n1, a2, n2, rfl, two_end rfl m1 b1 m2 b2⟩
set_option maxRecDepth 100000 in
set_option maxHeartbeats 2000000 in
theorem rates_10 (a : Option Addr) (zs : List Int) (len cap : Nat) (w : World) :
    Calls Try.prog 41 #[.int .u8 10, .slice a len cap] w (TwoEnd w (insS 10 zs) (outsS 10 zs)) := by
  show Calls _ _ _ _ (TwoEnd w [] [1])
  go_enter Try.func41, Try.ntmps41
  go_wp2_with (first
    | (go_at_call 71; (with_reducible refine (ports1 _ _ _).mono ?_); rintro e w1 ⟨a1, n1, rfl, m1, b1⟩)
    | (go_at_call 71; (with_reducible refine (ports_none _).mono ?_); rintro e w3 ⟨rfl, rfl⟩))
  go_ret2
  exact ⟨none, 0, a1, n1, rfl, World.ownsRow_nil _ _ _ _, m1, (fun x y hx => by cases hx), b1⟩
set_option maxRecDepth 100000 in
set_option maxHeartbeats 2000000 in
theorem rates_3 (a : Option Addr) (zs : List Int) (len cap : Nat) (w : World) (hl : zs.length = len) (h1 : len = 1) (h : At w a zs) :
    Calls Try.prog 41 #[.int .u8 3, .slice a len cap] w (TwoEnd w (insS 3 zs) (outsS 3 zs)) := by
  show Calls _ _ _ _ (TwoEnd w [nth zs 0] [1])
  rcases h with h0 | ⟨b, off, rfl, hc⟩
  · rw [h0] at hl; simp at hl; omega
  have c0 := hc 0 (by omega)
  rw [Nat.add_zero] at c0
  have m0 : 0 < len := by omega
  have l0 : (0 : Int) < (len : Int) := by omega
  clear hc
  generalize nth zs 0 = p0 at *
  go_enter Try.func41, Try.ntmps41
  go_wp2_with (first
    | (go_at_call 71; (with_reducible refine (ports1 _ w1 _).mono ?_); rintro e w2 ⟨a2, n2, rfl, m2, b2⟩)
    | (go_at_call 71; (with_reducible refine (ports1 _ _ _).mono ?_); rintro e w1 ⟨a1, n1, rfl, m1, b1⟩))
  go_ret2
  exact ⟨a1, n1, a2, n2, rfl, two_end rfl m1 b1 m2 b2⟩
set_option maxRecDepth 100000 in
set_option maxHeartbeats 2000000 in
theorem rates_11 (a : Option Addr) (zs : List Int) (len cap : Nat) (w : World) (hl : zs.length = len) (h1 : len = 1) (h : At w a zs) :
    Calls Try.prog 41 #[.int .u8 11, .slice a len cap] w (TwoEnd w (insS 11 zs) (outsS 11 zs)) := by
  show Calls _ _ _ _ (TwoEnd w [nth zs 0] [])
  rcases h with h0 | ⟨b, off, rfl, hc⟩
  · rw [h0] at hl; simp at hl; omega
  have c0 := hc 0 (by omega)
  rw [Nat.add_zero] at c0
  have m0 : 0 < len := by omega
  have l0 : (0 : Int) < (len : Int) := by omega
  clear hc
  generalize nth zs 0 = p0 at *
  go_enter Try.func41, Try.ntmps41
  go_wp2_with (first
    | (go_at_call 71; (with_reducible refine (ports_none _).mono ?_); rintro e w3 ⟨rfl, rfl⟩)
    | (go_at_call 71; (with_reducible refine (ports1 _ _ _).mono ?_); rintro e w1 ⟨a1, n1, rfl, m1, b1⟩))
  go_ret2
  exact ⟨a1, n1, none, 0, rfl, m1, World.ownsRow_nil _ _ _ _, (fun x y _ hy => by cases hy), b1⟩
set_option maxRecDepth 100000 in
set_option maxHeartbeats 2000000 in
theorem rates_6 (a : Option Addr) (zs : List Int) (len cap : Nat) (w : World) (hl : zs.length = len) (h1 : len = 1) (h : At w a zs) (hw : 1 ≤ nth zs 0 ∧ nth zs 0 ≤ 16) :
    Calls Try.prog 41 #[.int .u8 6, .slice a len cap] w (TwoEnd w (insS 6 zs) (outsS 6 zs)) := by
  show Calls _ _ _ _ (TwoEnd w (rep (nth zs 0) 1) [1])
  rcases h with h0 | ⟨b, off, rfl, hc⟩
  · rw [h0] at hl; simp at hl; omega
  have c0 := hc 0 (by omega)
  rw [Nat.add_zero] at c0
  have m0 : 0 < len := by omega
  have l0 : (0 : Int) < (len : Int) := by omega
  clear hc
  generalize nth zs 0 = p0 at *
  go_enter Try.func41, Try.ntmps41
  go_wp2_with (first
    | (go_at_call 71; (with_reducible refine (ports1 _ w1 _).mono ?_); rintro e w2 ⟨a2, n2, rfl, m2, b2⟩)
    | (go_at_call 72; (with_reducible refine (alike_rep _ _ _ hw).mono ?_); rintro e w1 ⟨a1, n1, rfl, m1, b1⟩))
  go_ret2
  exact ⟨a1, n1, a2, n2, rfl, two_end rfl m1 b1 m2 b2⟩
set_option maxRecDepth 100000 in
set_option maxHeartbeats 2000000 in
theorem rates_2 (a : Option Addr) (zs : List Int) (len cap : Nat) (w : World) (hl : zs.length = len) (h1 : len = 1) (h : At w a zs) :
    Calls Try.prog 41 #[.int .u8 2, .slice a len cap] w (TwoEnd w (insS 2 zs) (outsS 2 zs)) := by
  show Calls _ _ _ _ (TwoEnd w [1] [nth zs 0])
  rcases h with h0 | ⟨b, off, rfl, hc⟩
  · rw [h0] at hl; simp at hl; omega
  have c0 := hc 0 (by omega)
  rw [Nat.add_zero] at c0
  have m0 : 0 < len := by omega
  have l0 : (0 : Int) < (len : Int) := by omega
  clear hc
  generalize nth zs 0 = p0 at *
  go_enter Try.func41, Try.ntmps41
  go_wp2
  refine wp_region_said 6 (fun i u v => match i with
      | 0 => Pt u 1 v
      | 1 => Mk w.heap.size u [1] v
      | 2 => v = .slice (some ⟨b, off, none⟩) len cap
      | 3 => v = .pointer (some ⟨b, off, none⟩)
      | 4 => v = .int .i64 p0
      | 5 => Pt u p0 v
      | _ => True) (by kernel_rfl) (by kernel_rfl) (by kernel_rfl) (by kernel_rfl) ?_ ?_ ?_
  · intro i w v w' h hb
    match i, h with
    | 0, h => exact Pt.later h hb
    | 1, h => exact Mk.later h hb
    | 2, h => exact h
    | 3, h => exact h
    | 4, h => exact h
    | 5, h => exact Pt.later h hb
    | _ + 6, _ => trivial
  · intro i o ρ w' hi ho hb hc hf hfr hdep
    have k0 := cell_keep6 hb c0
    match i, hi with
    | 0, _ =>
      simp only [List.getElem?_toArray, List.getElem?_cons_zero, Option.some.injEq] at ho
      subst ho
      simp [go_sem, hc]
      exact ⟨(Below.refl _ _).alloc (Nat.le_refl _) _, pt_new _ _ _⟩
    | 1, _ =>
      simp only [List.getElem?_toArray, List.getElem?_cons_zero, List.getElem?_cons_succ, Option.some.injEq] at ho
      subst ho
      obtain ⟨g, ts, hat⟩ : Pt w' 1 (ρ (.tmp 9)) := hdep 0 9 (by kernel_rfl) (by kernel_rfl)
      simp [go_sem, ts, hf]
      exact ⟨rfl, said_of (ports_any g [1] 1 w' (by simp) hat) hb.size⟩
    | 2, _ =>
      simp only [List.getElem?_toArray, List.getElem?_cons_zero, List.getElem?_cons_succ, Option.some.injEq] at ho
      subst ho
      have ts : ρ (.tmp 1) = .slice (some ⟨b, off, none⟩) len cap := hfr 1 (by kernel_rfl)
      simp [go_sem, ts]
      exact ⟨Below.refl _ _, rfl⟩
    | 3, _ =>
      simp only [List.getElem?_toArray, List.getElem?_cons_zero, List.getElem?_cons_succ, Option.some.injEq] at ho
      subst ho
      have ts : ρ (.tmp 11) = .slice (some ⟨b, off, none⟩) len cap := hdep 2 11 (by kernel_rfl) (by kernel_rfl)
      simp [go_sem, ts, hc, m0]
      exact ⟨Below.refl _ _, rfl⟩
    | 4, _ =>
      simp only [List.getElem?_toArray, List.getElem?_cons_zero, List.getElem?_cons_succ, Option.some.injEq] at ho
      subst ho
      have ts : ρ (.tmp 12) = .pointer (some ⟨b, off, none⟩) := hdep 3 12 (by kernel_rfl) (by kernel_rfl)
      simp [go_sem, ts, k0]
      exact ⟨Below.refl _ _, rfl⟩
    | 5, _ =>
      simp only [List.getElem?_toArray, List.getElem?_cons_zero, List.getElem?_cons_succ, Option.some.injEq] at ho
      subst ho
      have ts : ρ (.tmp 13) = .int .i64 p0 := hdep 4 13 (by kernel_rfl) (by kernel_rfl)
      simp [go_sem, ts]
      exact ⟨(Below.refl _ _).alloc (Nat.le_refl _) _, pt_new _ _ _⟩
  · intro V w9 q9 hS
    obtain ⟨g0, e0, P0⟩ : Pt w9 1 (V 0) := hS 0 (by decide)
    obtain ⟨a1, n1, e1, M1⟩ : Mk w.heap.size w9 [1] (V 1) := hS 1 (by decide)
    have e2 : V 2 = .slice (some ⟨b, off, none⟩) len cap := hS 2 (by decide)
    have e3 : V 3 = .pointer (some ⟨b, off, none⟩) := hS 3 (by decide)
    have e4 : V 4 = .int .i64 p0 := hS 4 (by decide)
    obtain ⟨g5, e5, P5⟩ : Pt w9 p0 (V 5) := hS 5 (by decide)
    simp only [List.drop_succ_cons, List.drop_zero, List.take_succ_cons, List.take_zero, puts, e0, e1, e2, e3, e4, e5]
    clear hS e0 e1 e2 e3 e4 e5 V
    go_wp2_with (go_at_call 71; (with_reducible refine (ports_one g5 (p0) w9 P5).mono ?_); rintro e w2 ⟨a2, n2, rfl, m2, b2⟩)
    go_ret2
    exact ⟨a1, n1, a2, n2, rfl, two_end rfl M1 q9 m2 b2⟩
set_option maxRecDepth 100000 in
set_option maxHeartbeats 2000000 in
theorem rates_9 (a : Option Addr) (zs : List Int) (len cap : Nat) (w : World) (hl : zs.length = len) (h1 : len = 1) (h : At w a zs) (hw : 1 ≤ nth zs 0 ∧ nth zs 0 ≤ 16) :
    Calls Try.prog 41 #[.int .u8 9, .slice a len cap] w (TwoEnd w (insS 9 zs) (outsS 9 zs)) := by
  show Calls _ _ _ _ (TwoEnd w [1] (rep (nth zs 0) 1))
  rcases h with h0 | ⟨b, off, rfl, hc⟩
  · rw [h0] at hl; simp at hl; omega
  have c0 := hc 0 (by omega)
  rw [Nat.add_zero] at c0
  have m0 : 0 < len := by omega
  have l0 : (0 : Int) < (len : Int) := by omega
  clear hc
  generalize nth zs 0 = p0 at *
  go_enter Try.func41, Try.ntmps41
  go_wp2
  refine wp_region_said 5 (fun i u v => match i with
      | 0 => Pt u 1 v
      | 1 => Mk w.heap.size u [1] v
      | 2 => v = .slice (some ⟨b, off, none⟩) len cap
      | 3 => v = .pointer (some ⟨b, off, none⟩)
      | 4 => v = .int .i64 p0
      | _ => True) (by kernel_rfl) (by kernel_rfl) (by kernel_rfl) (by kernel_rfl) ?_ ?_ ?_
  · intro i w v w' h hb
    match i, h with
    | 0, h => exact Pt.later h hb
    | 1, h => exact Mk.later h hb
    | 2, h => exact h
    | 3, h => exact h
    | 4, h => exact h
    | _ + 5, _ => trivial
  · intro i o ρ w' hi ho hb hc hf hfr hdep
    have k0 := cell_keep6 hb c0
    match i, hi with
    | 0, _ =>
      simp only [List.getElem?_toArray, List.getElem?_cons_zero, Option.some.injEq] at ho
      subst ho
      simp [go_sem, hc]
      exact ⟨(Below.refl _ _).alloc (Nat.le_refl _) _, pt_new _ _ _⟩
    | 1, _ =>
      simp only [List.getElem?_toArray, List.getElem?_cons_zero, List.getElem?_cons_succ, Option.some.injEq] at ho
      subst ho
      obtain ⟨g, ts, hat⟩ : Pt w' 1 (ρ (.tmp 77)) := hdep 0 77 (by kernel_rfl) (by kernel_rfl)
      simp [go_sem, ts, hf]
      exact ⟨rfl, said_of (ports_any g [1] 1 w' (by simp) hat) hb.size⟩
    | 2, _ =>
      simp only [List.getElem?_toArray, List.getElem?_cons_zero, List.getElem?_cons_succ, Option.some.injEq] at ho
      subst ho
      have ts : ρ (.tmp 1) = .slice (some ⟨b, off, none⟩) len cap := hfr 1 (by kernel_rfl)
      simp [go_sem, ts]
      exact ⟨Below.refl _ _, rfl⟩
    | 3, _ =>
      simp only [List.getElem?_toArray, List.getElem?_cons_zero, List.getElem?_cons_succ, Option.some.injEq] at ho
      subst ho
      have ts : ρ (.tmp 79) = .slice (some ⟨b, off, none⟩) len cap := hdep 2 79 (by kernel_rfl) (by kernel_rfl)
      simp [go_sem, ts, hc, m0]
      exact ⟨Below.refl _ _, rfl⟩
    | 4, _ =>
      simp only [List.getElem?_toArray, List.getElem?_cons_zero, List.getElem?_cons_succ, Option.some.injEq] at ho
      subst ho
      have ts : ρ (.tmp 80) = .pointer (some ⟨b, off, none⟩) := hdep 3 80 (by kernel_rfl) (by kernel_rfl)
      simp [go_sem, ts, k0]
      exact ⟨Below.refl _ _, rfl⟩
  · intro V w9 q9 hS
    obtain ⟨g0, e0, P0⟩ : Pt w9 1 (V 0) := hS 0 (by decide)
    obtain ⟨a1, n1, e1, M1⟩ : Mk w.heap.size w9 [1] (V 1) := hS 1 (by decide)
    have e2 : V 2 = .slice (some ⟨b, off, none⟩) len cap := hS 2 (by decide)
    have e3 : V 3 = .pointer (some ⟨b, off, none⟩) := hS 3 (by decide)
    have e4 : V 4 = .int .i64 p0 := hS 4 (by decide)
    simp only [List.drop_succ_cons, List.drop_zero, List.take_succ_cons, List.take_zero, puts, e0, e1, e2, e3, e4]
    clear hS e0 e1 e2 e3 e4 V
    go_wp2_with (go_at_call 72; (with_reducible refine (alike_rep p0 1 w9 hw).mono ?_); rintro e w2 ⟨a2, n2, rfl, m2, b2⟩)
    go_ret2
    exact ⟨a1, n1, a2, n2, rfl, two_end rfl M1 q9 m2 b2⟩
set_option maxRecDepth 100000 in
set_option maxHeartbeats 2000000 in
theorem rates_4 (a : Option Addr) (zs : List Int) (len cap : Nat) (w : World) (hl : zs.length = len) (h1 : len = 2) (h : At w a zs) (hw : (1 ≤ nth zs 0 ∧ nth zs 0 ≤ 16) ∧ (1 ≤ nth zs 1 ∧ nth zs 1 ≤ 64)) :
    Calls Try.prog 41 #[.int .u8 4, .slice a len cap] w (TwoEnd w (insS 4 zs) (outsS 4 zs)) := by
  show Calls _ _ _ _ (TwoEnd w (rep (nth zs 0) (nth zs 1)) [nth zs 0 * nth zs 1])
  rcases h with h0 | ⟨b, off, rfl, hc⟩
  · rw [h0] at hl; simp at hl; omega
  have c0 := hc 0 (by omega)
  rw [Nat.add_zero] at c0
  have m0 : 0 < len := by omega
  have l0 : (0 : Int) < (len : Int) := by omega
  have c1 := hc 1 (by omega)
  have l2 : (1 : Int) < (len : Int) := by omega
  clear hc
  generalize nth zs 0 = p0 at *
  generalize nth zs 1 = p1 at *
  have hmb := mul_bound hw.1 hw.2
  have hmul : IntKind.i64.wrap (p0 * p1) = p0 * p1 := wrap_id (by omega) (by omega)
  go_enter Try.func41, Try.ntmps41
  go_wp2
  refine wp_region_said 15 (fun i u v => match i with
      | 0 => v = .slice (some ⟨b, off, none⟩) len cap
      | 1 => v = .pointer (some ⟨b, off, none⟩)
      | 2 => v = .int .i64 p0
      | 3 => v = .slice (some ⟨b, off, none⟩) len cap
      | 4 => v = .pointer (some ⟨b, off + 1, none⟩)
      | 5 => v = .int .i64 p1
      | 6 => Mk w.heap.size u (rep p0 p1) v
      | 7 => v = .slice (some ⟨b, off, none⟩) len cap
      | 8 => v = .pointer (some ⟨b, off, none⟩)
      | 9 => v = .int .i64 p0
      | 10 => v = .slice (some ⟨b, off, none⟩) len cap
      | 11 => v = .pointer (some ⟨b, off + 1, none⟩)
      | 12 => v = .int .i64 p1
      | 13 => v = .int .i64 (p0 * p1)
      | 14 => Pt u (p0 * p1) v
      | _ => True) (by kernel_rfl) (by kernel_rfl) (by kernel_rfl) (by kernel_rfl) ?_ ?_ ?_
  · intro i w v w' h hb
    match i, h with
    | 0, h => exact h
    | 1, h => exact h
    | 2, h => exact h
    | 3, h => exact h
    | 4, h => exact h
    | 5, h => exact h
    | 6, h => exact Mk.later h hb
    | 7, h => exact h
    | 8, h => exact h
    | 9, h => exact h
    | 10, h => exact h
    | 11, h => exact h
    | 12, h => exact h
    | 13, h => exact h
    | 14, h => exact Pt.later h hb
    | _ + 15, _ => trivial
  · intro i o ρ w' hi ho hb hc hf hfr hdep
    have k0 := cell_keep6 hb c0
    have k1 := cell_keep6 hb c1
    match i, hi with
    | 0, _ =>
      simp only [List.getElem?_toArray, List.getElem?_cons_zero, Option.some.injEq] at ho
      subst ho
      have ts : ρ (.tmp 1) = .slice (some ⟨b, off, none⟩) len cap := hfr 1 (by kernel_rfl)
      simp [go_sem, ts]
      exact ⟨Below.refl _ _, rfl⟩
    | 1, _ =>
      simp only [List.getElem?_toArray, List.getElem?_cons_zero, List.getElem?_cons_succ, Option.some.injEq] at ho
      subst ho
      have ts : ρ (.tmp 27) = .slice (some ⟨b, off, none⟩) len cap := hdep 0 27 (by kernel_rfl) (by kernel_rfl)
      simp [go_sem, ts, hc, m0]
      exact ⟨Below.refl _ _, rfl⟩
    | 2, _ =>
      simp only [List.getElem?_toArray, List.getElem?_cons_zero, List.getElem?_cons_succ, Option.some.injEq] at ho
      subst ho
      have ts : ρ (.tmp 28) = .pointer (some ⟨b, off, none⟩) := hdep 1 28 (by kernel_rfl) (by kernel_rfl)
      simp [go_sem, ts, k0]
      exact ⟨Below.refl _ _, rfl⟩
    | 3, _ =>
      simp only [List.getElem?_toArray, List.getElem?_cons_zero, List.getElem?_cons_succ, Option.some.injEq] at ho
      subst ho
      have ts : ρ (.tmp 1) = .slice (some ⟨b, off, none⟩) len cap := hfr 1 (by kernel_rfl)
      simp [go_sem, ts]
      exact ⟨Below.refl _ _, rfl⟩
    | 4, _ =>
      simp only [List.getElem?_toArray, List.getElem?_cons_zero, List.getElem?_cons_succ, Option.some.injEq] at ho
      subst ho
      have ts : ρ (.tmp 30) = .slice (some ⟨b, off, none⟩) len cap := hdep 3 30 (by kernel_rfl) (by kernel_rfl)
      simp [go_sem, ts, hc, l2]
      exact ⟨Below.refl _ _, rfl⟩
    | 5, _ =>
      simp only [List.getElem?_toArray, List.getElem?_cons_zero, List.getElem?_cons_succ, Option.some.injEq] at ho
      subst ho
      have ts : ρ (.tmp 31) = .pointer (some ⟨b, off + 1, none⟩) := hdep 4 31 (by kernel_rfl) (by kernel_rfl)
      simp [go_sem, ts, k1]
      exact ⟨Below.refl _ _, rfl⟩
    | 6, _ =>
      simp only [List.getElem?_toArray, List.getElem?_cons_zero, List.getElem?_cons_succ, Option.some.injEq] at ho
      subst ho
      have t0 : ρ (.tmp 29) = .int .i64 p0 := hdep 2 29 (by kernel_rfl) (by kernel_rfl)
      have t1 : ρ (.tmp 32) = .int .i64 p1 := hdep 5 32 (by kernel_rfl) (by kernel_rfl)
      simp [go_sem, t0, t1, hf]
      exact ⟨rfl, said_of (alike_rep p0 p1 w' hw.1) hb.size⟩
    | 7, _ =>
      simp only [List.getElem?_toArray, List.getElem?_cons_zero, List.getElem?_cons_succ, Option.some.injEq] at ho
      subst ho
      have ts : ρ (.tmp 1) = .slice (some ⟨b, off, none⟩) len cap := hfr 1 (by kernel_rfl)
      simp [go_sem, ts]
      exact ⟨Below.refl _ _, rfl⟩
    | 8, _ =>
      simp only [List.getElem?_toArray, List.getElem?_cons_zero, List.getElem?_cons_succ, Option.some.injEq] at ho
      subst ho
      have ts : ρ (.tmp 34) = .slice (some ⟨b, off, none⟩) len cap := hdep 7 34 (by kernel_rfl) (by kernel_rfl)
      simp [go_sem, ts, hc, m0]
      exact ⟨Below.refl _ _, rfl⟩
    | 9, _ =>
      simp only [List.getElem?_toArray, List.getElem?_cons_zero, List.getElem?_cons_succ, Option.some.injEq] at ho
      subst ho
      have ts : ρ (.tmp 35) = .pointer (some ⟨b, off, none⟩) := hdep 8 35 (by kernel_rfl) (by kernel_rfl)
      simp [go_sem, ts, k0]
      exact ⟨Below.refl _ _, rfl⟩
    | 10, _ =>
      simp only [List.getElem?_toArray, List.getElem?_cons_zero, List.getElem?_cons_succ, Option.some.injEq] at ho
      subst ho
      have ts : ρ (.tmp 1) = .slice (some ⟨b, off, none⟩) len cap := hfr 1 (by kernel_rfl)
      simp [go_sem, ts]
      exact ⟨Below.refl _ _, rfl⟩
    | 11, _ =>
      simp only [List.getElem?_toArray, List.getElem?_cons_zero, List.getElem?_cons_succ, Option.some.injEq] at ho
      subst ho
      have ts : ρ (.tmp 37) = .slice (some ⟨b, off, none⟩) len cap := hdep 10 37 (by kernel_rfl) (by kernel_rfl)
      simp [go_sem, ts, hc, l2]
      exact ⟨Below.refl _ _, rfl⟩
    | 12, _ =>
      simp only [List.getElem?_toArray, List.getElem?_cons_zero, List.getElem?_cons_succ, Option.some.injEq] at ho
      subst ho
      have ts : ρ (.tmp 38) = .pointer (some ⟨b, off + 1, none⟩) := hdep 11 38 (by kernel_rfl) (by kernel_rfl)
      simp [go_sem, ts, k1]
      exact ⟨Below.refl _ _, rfl⟩
    | 13, _ =>
      simp only [List.getElem?_toArray, List.getElem?_cons_zero, List.getElem?_cons_succ, Option.some.injEq] at ho
      subst ho
      have t1 : ρ (.tmp 36) = .int .i64 p0 := hdep 9 36 (by kernel_rfl) (by kernel_rfl)
      have t2 : ρ (.tmp 39) = .int .i64 p1 := hdep 12 39 (by kernel_rfl) (by kernel_rfl)
      simp [go_sem, t1, t2]
      exact ⟨Below.refl _ _, by rw [hmul]⟩
    | 14, _ =>
      simp only [List.getElem?_toArray, List.getElem?_cons_zero, List.getElem?_cons_succ, Option.some.injEq] at ho
      subst ho
      have ts : ρ (.tmp 40) = .int .i64 (p0 * p1) := hdep 13 40 (by kernel_rfl) (by kernel_rfl)
      simp [go_sem, ts]
      exact ⟨(Below.refl _ _).alloc (Nat.le_refl _) _, pt_new _ _ _⟩
  · intro V w9 q9 hS
    have e0 : V 0 = .slice (some ⟨b, off, none⟩) len cap := hS 0 (by decide)
    have e1 : V 1 = .pointer (some ⟨b, off, none⟩) := hS 1 (by decide)
    have e2 : V 2 = .int .i64 p0 := hS 2 (by decide)
    have e3 : V 3 = .slice (some ⟨b, off, none⟩) len cap := hS 3 (by decide)
    have e4 : V 4 = .pointer (some ⟨b, off + 1, none⟩) := hS 4 (by decide)
    have e5 : V 5 = .int .i64 p1 := hS 5 (by decide)
    obtain ⟨a6, n6, e6, M6⟩ : Mk w.heap.size w9 (rep p0 p1) (V 6) := hS 6 (by decide)
    have e7 : V 7 = .slice (some ⟨b, off, none⟩) len cap := hS 7 (by decide)
    have e8 : V 8 = .pointer (some ⟨b, off, none⟩) := hS 8 (by decide)
    have e9 : V 9 = .int .i64 p0 := hS 9 (by decide)
    have e10 : V 10 = .slice (some ⟨b, off, none⟩) len cap := hS 10 (by decide)
    have e11 : V 11 = .pointer (some ⟨b, off + 1, none⟩) := hS 11 (by decide)
    have e12 : V 12 = .int .i64 p1 := hS 12 (by decide)
    have e13 : V 13 = .int .i64 (p0 * p1) := hS 13 (by decide)
    obtain ⟨g14, e14, P14⟩ : Pt w9 (p0 * p1) (V 14) := hS 14 (by decide)
    simp only [List.drop_succ_cons, List.drop_zero, List.take_succ_cons, List.take_zero, puts, e0, e1, e2, e3, e4, e5, e6, e7, e8, e9, e10, e11, e12, e13, e14]
    clear hS e0 e1 e2 e3 e4 e5 e6 e7 e8 e9 e10 e11 e12 e13 e14 V
    go_wp2_with (go_at_call 71; (with_reducible refine (ports_one g14 (p0 * p1) w9 P14).mono ?_); rintro e w2 ⟨a2, n2, rfl, m2, b2⟩)
    go_ret2
    exact ⟨a6, n6, a2, n2, rfl, two_end rfl M6 q9 m2 b2⟩
set_option maxRecDepth 100000 in
set_option maxHeartbeats 2000000 in
theorem rates_5 (a : Option Addr) (zs : List Int) (len cap : Nat) (w : World) (hl : zs.length = len) (h1 : len = 2) (h : At w a zs) (hw : (1 ≤ nth zs 0 ∧ nth zs 0 ≤ 16) ∧ (1 ≤ nth zs 1 ∧ nth zs 1 ≤ 64)) :
    Calls Try.prog 41 #[.int .u8 5, .slice a len cap] w (TwoEnd w (insS 5 zs) (outsS 5 zs)) := by
  show Calls _ _ _ _ (TwoEnd w [nth zs 0 * nth zs 1] (rep (nth zs 0) (nth zs 1)))
  rcases h with h0 | ⟨b, off, rfl, hc⟩
  · rw [h0] at hl; simp at hl; omega
  have c0 := hc 0 (by omega)
  rw [Nat.add_zero] at c0
  have m0 : 0 < len := by omega
  have l0 : (0 : Int) < (len : Int) := by omega
  have c1 := hc 1 (by omega)
  have l2 : (1 : Int) < (len : Int) := by omega
  clear hc
  generalize nth zs 0 = p0 at *
  generalize nth zs 1 = p1 at *
  have hmb := mul_bound hw.1 hw.2
  have hmul : IntKind.i64.wrap (p0 * p1) = p0 * p1 := wrap_id (by omega) (by omega)
  go_enter Try.func41, Try.ntmps41
  go_wp2
  refine wp_region_said 15 (fun i u v => match i with
      | 0 => v = .slice (some ⟨b, off, none⟩) len cap
      | 1 => v = .pointer (some ⟨b, off, none⟩)
      | 2 => v = .int .i64 p0
      | 3 => v = .slice (some ⟨b, off, none⟩) len cap
      | 4 => v = .pointer (some ⟨b, off + 1, none⟩)
      | 5 => v = .int .i64 p1
      | 6 => v = .int .i64 (p0 * p1)
      | 7 => Pt u (p0 * p1) v
      | 8 => Mk w.heap.size u [(p0 * p1)] v
      | 9 => v = .slice (some ⟨b, off, none⟩) len cap
      | 10 => v = .pointer (some ⟨b, off, none⟩)
      | 11 => v = .int .i64 p0
      | 12 => v = .slice (some ⟨b, off, none⟩) len cap
      | 13 => v = .pointer (some ⟨b, off + 1, none⟩)
      | 14 => v = .int .i64 p1
      | _ => True) (by kernel_rfl) (by kernel_rfl) (by kernel_rfl) (by kernel_rfl) ?_ ?_ ?_
  · intro i w v w' h hb
    match i, h with
    | 0, h => exact h
    | 1, h => exact h
    | 2, h => exact h
    | 3, h => exact h
    | 4, h => exact h
    | 5, h => exact h
    | 6, h => exact h
    | 7, h => exact Pt.later h hb
    | 8, h => exact Mk.later h hb
    | 9, h => exact h
    | 10, h => exact h
    | 11, h => exact h
    | 12, h => exact h
    | 13, h => exact h
    | 14, h => exact h
    | _ + 15, _ => trivial
  · intro i o ρ w' hi ho hb hc hf hfr hdep
    have k0 := cell_keep6 hb c0
    have k1 := cell_keep6 hb c1
    match i, hi with
    | 0, _ =>
      simp only [List.getElem?_toArray, List.getElem?_cons_zero, Option.some.injEq] at ho
      subst ho
      have ts : ρ (.tmp 1) = .slice (some ⟨b, off, none⟩) len cap := hfr 1 (by kernel_rfl)
      simp [go_sem, ts]
      exact ⟨Below.refl _ _, rfl⟩
    | 1, _ =>
      simp only [List.getElem?_toArray, List.getElem?_cons_zero, List.getElem?_cons_succ, Option.some.injEq] at ho
      subst ho
      have ts : ρ (.tmp 45) = .slice (some ⟨b, off, none⟩) len cap := hdep 0 45 (by kernel_rfl) (by kernel_rfl)
      simp [go_sem, ts, hc, m0]
      exact ⟨Below.refl _ _, rfl⟩
    | 2, _ =>
      simp only [List.getElem?_toArray, List.getElem?_cons_zero, List.getElem?_cons_succ, Option.some.injEq] at ho
      subst ho
      have ts : ρ (.tmp 46) = .pointer (some ⟨b, off, none⟩) := hdep 1 46 (by kernel_rfl) (by kernel_rfl)
      simp [go_sem, ts, k0]
      exact ⟨Below.refl _ _, rfl⟩
    | 3, _ =>
      simp only [List.getElem?_toArray, List.getElem?_cons_zero, List.getElem?_cons_succ, Option.some.injEq] at ho
      subst ho
      have ts : ρ (.tmp 1) = .slice (some ⟨b, off, none⟩) len cap := hfr 1 (by kernel_rfl)
      simp [go_sem, ts]
      exact ⟨Below.refl _ _, rfl⟩
    | 4, _ =>
      simp only [List.getElem?_toArray, List.getElem?_cons_zero, List.getElem?_cons_succ, Option.some.injEq] at ho
      subst ho
      have ts : ρ (.tmp 48) = .slice (some ⟨b, off, none⟩) len cap := hdep 3 48 (by kernel_rfl) (by kernel_rfl)
      simp [go_sem, ts, hc, l2]
      exact ⟨Below.refl _ _, rfl⟩
    | 5, _ =>
      simp only [List.getElem?_toArray, List.getElem?_cons_zero, List.getElem?_cons_succ, Option.some.injEq] at ho
      subst ho
      have ts : ρ (.tmp 49) = .pointer (some ⟨b, off + 1, none⟩) := hdep 4 49 (by kernel_rfl) (by kernel_rfl)
      simp [go_sem, ts, k1]
      exact ⟨Below.refl _ _, rfl⟩
    | 6, _ =>
      simp only [List.getElem?_toArray, List.getElem?_cons_zero, List.getElem?_cons_succ, Option.some.injEq] at ho
      subst ho
      have t1 : ρ (.tmp 47) = .int .i64 p0 := hdep 2 47 (by kernel_rfl) (by kernel_rfl)
      have t2 : ρ (.tmp 50) = .int .i64 p1 := hdep 5 50 (by kernel_rfl) (by kernel_rfl)
      simp [go_sem, t1, t2]
      exact ⟨Below.refl _ _, by rw [hmul]⟩
    | 7, _ =>
      simp only [List.getElem?_toArray, List.getElem?_cons_zero, List.getElem?_cons_succ, Option.some.injEq] at ho
      subst ho
      have ts : ρ (.tmp 51) = .int .i64 (p0 * p1) := hdep 6 51 (by kernel_rfl) (by kernel_rfl)
      simp [go_sem, ts]
      exact ⟨(Below.refl _ _).alloc (Nat.le_refl _) _, pt_new _ _ _⟩
    | 8, _ =>
      simp only [List.getElem?_toArray, List.getElem?_cons_zero, List.getElem?_cons_succ, Option.some.injEq] at ho
      subst ho
      obtain ⟨g, ts, hat⟩ : Pt w' (p0 * p1) (ρ (.tmp 52)) := hdep 7 52 (by kernel_rfl) (by kernel_rfl)
      simp [go_sem, ts, hf]
      exact ⟨rfl, said_of (ports_any g [(p0 * p1)] 1 w' (by simp) hat) hb.size⟩
    | 9, _ =>
      simp only [List.getElem?_toArray, List.getElem?_cons_zero, List.getElem?_cons_succ, Option.some.injEq] at ho
      subst ho
      have ts : ρ (.tmp 1) = .slice (some ⟨b, off, none⟩) len cap := hfr 1 (by kernel_rfl)
      simp [go_sem, ts]
      exact ⟨Below.refl _ _, rfl⟩
    | 10, _ =>
      simp only [List.getElem?_toArray, List.getElem?_cons_zero, List.getElem?_cons_succ, Option.some.injEq] at ho
      subst ho
      have ts : ρ (.tmp 54) = .slice (some ⟨b, off, none⟩) len cap := hdep 9 54 (by kernel_rfl) (by kernel_rfl)
      simp [go_sem, ts, hc, m0]
      exact ⟨Below.refl _ _, rfl⟩
    | 11, _ =>
      simp only [List.getElem?_toArray, List.getElem?_cons_zero, List.getElem?_cons_succ, Option.some.injEq] at ho
      subst ho
      have ts : ρ (.tmp 55) = .pointer (some ⟨b, off, none⟩) := hdep 10 55 (by kernel_rfl) (by kernel_rfl)
      simp [go_sem, ts, k0]
      exact ⟨Below.refl _ _, rfl⟩
    | 12, _ =>
      simp only [List.getElem?_toArray, List.getElem?_cons_zero, List.getElem?_cons_succ, Option.some.injEq] at ho
      subst ho
      have ts : ρ (.tmp 1) = .slice (some ⟨b, off, none⟩) len cap := hfr 1 (by kernel_rfl)
      simp [go_sem, ts]
      exact ⟨Below.refl _ _, rfl⟩
    | 13, _ =>
      simp only [List.getElem?_toArray, List.getElem?_cons_zero, List.getElem?_cons_succ, Option.some.injEq] at ho
      subst ho
      have ts : ρ (.tmp 57) = .slice (some ⟨b, off, none⟩) len cap := hdep 12 57 (by kernel_rfl) (by kernel_rfl)
      simp [go_sem, ts, hc, l2]
      exact ⟨Below.refl _ _, rfl⟩
    | 14, _ =>
      simp only [List.getElem?_toArray, List.getElem?_cons_zero, List.getElem?_cons_succ, Option.some.injEq] at ho
      subst ho
      have ts : ρ (.tmp 58) = .pointer (some ⟨b, off + 1, none⟩) := hdep 13 58 (by kernel_rfl) (by kernel_rfl)
      simp [go_sem, ts, k1]
      exact ⟨Below.refl _ _, rfl⟩
  · intro V w9 q9 hS
    have e0 : V 0 = .slice (some ⟨b, off, none⟩) len cap := hS 0 (by decide)
    have e1 : V 1 = .pointer (some ⟨b, off, none⟩) := hS 1 (by decide)
    have e2 : V 2 = .int .i64 p0 := hS 2 (by decide)
    have e3 : V 3 = .slice (some ⟨b, off, none⟩) len cap := hS 3 (by decide)
    have e4 : V 4 = .pointer (some ⟨b, off + 1, none⟩) := hS 4 (by decide)
    have e5 : V 5 = .int .i64 p1 := hS 5 (by decide)
    have e6 : V 6 = .int .i64 (p0 * p1) := hS 6 (by decide)
    obtain ⟨g7, e7, P7⟩ : Pt w9 (p0 * p1) (V 7) := hS 7 (by decide)
    obtain ⟨a8, n8, e8, M8⟩ : Mk w.heap.size w9 [(p0 * p1)] (V 8) := hS 8 (by decide)
    have e9 : V 9 = .slice (some ⟨b, off, none⟩) len cap := hS 9 (by decide)
    have e10 : V 10 = .pointer (some ⟨b, off, none⟩) := hS 10 (by decide)
    have e11 : V 11 = .int .i64 p0 := hS 11 (by decide)
    have e12 : V 12 = .slice (some ⟨b, off, none⟩) len cap := hS 12 (by decide)
    have e13 : V 13 = .pointer (some ⟨b, off + 1, none⟩) := hS 13 (by decide)
    have e14 : V 14 = .int .i64 p1 := hS 14 (by decide)
    simp only [List.drop_succ_cons, List.drop_zero, List.take_succ_cons, List.take_zero, puts, e0, e1, e2, e3, e4, e5, e6, e7, e8, e9, e10, e11, e12, e13, e14]
    clear hS e0 e1 e2 e3 e4 e5 e6 e7 e8 e9 e10 e11 e12 e13 e14 V
    go_wp2_with (go_at_call 72; (with_reducible refine (alike_rep p0 p1 w9 hw.1).mono ?_); rintro e w2 ⟨a2, n2, rfl, m2, b2⟩)
    go_ret2
    exact ⟨a8, n8, a2, n2, rfl, two_end rfl M8 q9 m2 b2⟩
end Go.Proofs.Ythgblljokonejaa

/- The document's Has, Short, May, Fire, Counts, Start of nets. (Written by tmpl/mkN15.py.) -/
import Derived.Test.YtancphohpedigaaN11
import Derived.Test.YtancphohpedigaaNP
namespace Go.Proofs.Ytancphohpedigaa
open Go.ChangeShapes Go.WideShapes Go.ChangeAt Go.RowKit

/-- The document's state of a net, as it lies. -/
structure DocS (B : Nat) (U : World) (n : NN) (a : Option Addr) (g N : Nat) (F : List Int) : Prop where
  arcs : AtN U a n.arcs
  fir : CapR B U (some ⟨g, 0, none⟩) N F
  lF : F.length = N
  nodes : n.nodes = (N : Int)
  sound : SoundN n
  far : ∀ x, a = some x → n.arcs ≠ [] → x.block ≠ g
  inr : InR F
theorem DocS.below {B : Nat} {U U' : World} {n : NN} {a : Option Addr} {g N : Nat} {F : List Int} (h : DocS B U n a g N F) (hb : Below U.heap.size U U') : DocS B U' n a g N F := ⟨h.arcs.below hb, h.fir.later hb, h.lF, h.nodes, h.sound, h.far, h.inr⟩
theorem DocS.cell {B : Nat} {U : World} {n : NN} {a : Option Addr} {g N : Nat} {F : List Int} (h : DocS B U n a g N F) {k : Nat} (hk : k < N) : U.cell? ⟨g, k, none⟩ = some (.int .i64 (nth F k)) := by
  rcases h.fir.at with e | ⟨tb, tof, et, cF⟩
  · have := h.lF; rw [e] at this; simp at this; omega
  · obtain ⟨rfl, rfl⟩ : g = tb ∧ 0 = tof := by simp at et; exact ⟨et.1, et.2⟩
    have := cF k (by rw [h.lF]; exact hk)
    rw [Nat.zero_add] at this
    exact this
set_option maxRecDepth 100000 in
set_option maxHeartbeats 4000000 in
theorem has10_any {B : Nat} (w : World) (n : NN) (a : Option Addr) (c g N : Nat) (F : List Int) (h : DocS B w n a g N F) (i : Nat) (hi : i < n.arcs.length) : Calls Try.prog 51 #[.agg #[.int .i64 n.nodes, .slice a n.arcs.length c, .slice (some ⟨g, 0, none⟩) N N], .int .i64 (i : Int)] w fun e w' => e = .returned (.int .i64 (hasN n F i)) ∧ Below w.heap.size w w' := by
  have ba := (Below.refl w.heap.size w).alloc (Nat.le_refl _) (.cells #[.int .i64 n.nodes, .slice a n.arcs.length c, .slice (some ⟨g, 0, none⟩) N N] 47)
  have X := hiddenN (blkA_new 47 w #[.int .i64 n.nodes, .slice a n.arcs.length c, .slice (some ⟨g, 0, none⟩) N N])
  have H := hiddenN (h.below ba)
  have B0 := hiddenN ba
  have hs := h.sound.arcs i hi
  have hN := h.nodes
  rcases H.out.arcs with e | ⟨ab, ao, ea, hca⟩
  · rw [e] at hi; simp at hi
  obtain ⟨a0, a1, a2, a3, a4⟩ := hca i hi
  obtain ⟨fn, efn⟩ : ∃ k : Nat, (nthNa n.arcs i).f = (k : Int) := ⟨(nthNa n.arcs i).f.toNat, by have := hs.f; omega⟩
  obtain ⟨tn, etn⟩ : ∃ k : Nat, (nthNa n.arcs i).t = (k : Int) := ⟨(nthNa n.arcs i).t.toNat, by have := hs.t; omega⟩
  have hfn : fn < N := by have := hs.f; omega
  have htn : tn < N := by have := hs.t; omega
  unfold hasN
  rw [efn] at a0 ⊢
  rw [etn] at a1 ⊢
  rw [Int.toNat_natCast, Int.toNat_natCast]
  have CF := hiddenN (fun (U : World) (hb : Below (w.alloc (.cells #[.int .i64 n.nodes, .slice a n.arcs.length c, .slice (some ⟨g, 0, none⟩) N N] 47)).heap.size (w.alloc (.cells #[.int .i64 n.nodes, .slice a n.arcs.length c, .slice (some ⟨g, 0, none⟩) N N] 47)) U) => (H.out.below hb).cell hfn)
  have CT := hiddenN (fun (U : World) (hb : Below (w.alloc (.cells #[.int .i64 n.nodes, .slice a n.arcs.length c, .slice (some ⟨g, 0, none⟩) N N] 47)).heap.size (w.alloc (.cells #[.int .i64 n.nodes, .slice a n.arcs.length c, .slice (some ⟨g, 0, none⟩) N N] 47)) U) => (H.out.below hb).cell htn)
  generalize (nthNa n.arcs i).g = gg at *
  generalize (nthNa n.arcs i).k = kk at *
  generalize (nthNa n.arcs i).s = ss at *
  generalize nth F fn = xf at *
  generalize nth F tn = xt at *
  have x0 := X.out.cell (k := 1) rfl
  simp only [List.getElem_toArray, List.getElem_cons_zero, List.getElem_cons_succ] at x0
  have hii : (i : Int) < (n.arcs.length : Int) := by omega
  have hmul := wrap_nest ss (gg * xf) (kk * xt)
  have w1 := wrapN (gg * xf)
  have w2 := wrapN (ss + wrap64 (gg * xf))
  have w3 := wrapN (kk * xt)
  have w4 := wrapN (wrap64 (ss + wrap64 (gg * xf)) - wrap64 (kk * xt))
  rw [hmul] at w4
  subst ea
  clear hca hs efn etn h ba H hN hmul
  go_enter Try.func51, Try.ntmps51
  go_upto_region 1 with fail
  generalize w.alloc (.cells #[.int .i64 n.nodes, .slice (some ⟨ab, ao, none⟩) n.arcs.length c, .slice (some ⟨g, 0, none⟩) N N] 47) = W0 at *
  go_upto_region 2 with fail
  have bc := (Below.refl W0.heap.size W0).alloc (Nat.le_refl _) (.cells #[.int .i64 (fn : Int), .int .i64 (tn : Int), .int .i64 gg, .int .i64 kk, .int .i64 ss] 44)
  have XA := blkA_new 44 W0 #[.int .i64 (fn : Int), .int .i64 (tn : Int), .int .i64 gg, .int .i64 kk, .int .i64 ss]
  have cf := CF.out _ bc
  have ct := CT.out _ bc
  have x2 := (X.out.below bc).cell (k := 2) rfl
  have B1 := hiddenN (B0.out.trans (bc.mono B0.out.size))
  obtain ⟨xb, hxb⟩ : ∃ q, W0.heap.size = q := ⟨_, rfl⟩
  rw [hxb] at XA ⊢
  generalize W0.alloc (.cells #[.int .i64 (fn : Int), .int .i64 (tn : Int), .int .i64 gg, .int .i64 kk, .int .i64 ss] 44) = V1 at *
  have y0 := XA.cell (k := 0) rfl
  have y1 := XA.cell (k := 1) rfl
  have y2 := XA.cell (k := 2) rfl
  have y3 := XA.cell (k := 3) rfl
  have y4 := XA.cell (k := 4) rfl
  simp only [List.getElem_toArray, List.getElem_cons_zero, List.getElem_cons_succ] at x2 y0 y1 y2 y3 y4
  have hfI : (fn : Int) < (N : Int) := by omega
  have htI : (tn : Int) < (N : Int) := by omega
  clear bc XA CF CT a0 a1 a2 a3 a4 x0 hxb X B0
  go_quiet (fail)
  go_wp2
  go_ret
  exact ⟨rfl, drewB B1.out _⟩

set_option maxRecDepth 100000 in
set_option maxHeartbeats 8000000 in
theorem rshort10_any {B : Nat} (w : World) (n : NN) (a : Option Addr) (c g N : Nat) (T F : List Int) (h : DocS B w n a g N F) (hI : InvN n T F) (v : Int) : Calls Try.prog 40 #[.agg #[.int .i64 n.nodes, .slice a n.arcs.length c, .slice (some ⟨g, 0, none⟩) N N], .int .i64 v] w fun e w' => e = .returned (.int .i64 (shortN n T v)) ∧ Below w.heap.size w w' := by
  have ba := (Below.refl w.heap.size w).alloc (Nat.le_refl _) (.cells #[.int .i64 n.nodes, .slice a n.arcs.length c, .slice (some ⟨g, 0, none⟩) N N] 47)
  have X := hiddenN (blkA_new 47 w #[.int .i64 n.nodes, .slice a n.arcs.length c, .slice (some ⟨g, 0, none⟩) N N])
  have H := hiddenN (h.below ba)
  have B0 := hiddenN ba
  have hmost := h.sound.most
  have SF := hiddenN (fun i hi ht hl hb => short_first (n := n) (T := T) (v := v) (i := i) h.sound hi ht hl hb)
  have HE := hiddenN hI.eq
  clear ba h hI
  go_enter Try.func40, Try.ntmps40
  go_upto_region 1 with fail
  generalize w.alloc (.cells #[.int .i64 n.nodes, .slice a n.arcs.length c, .slice (some ⟨g, 0, none⟩) N N] 47) = W0 at *
  go_wp2
  go_loopg [5] n.arcs.length (fun gk v5 wr => ∃ i : Nat, i ≤ n.arcs.length ∧ gk = n.arcs.length - i ∧ v5 = .int .i64 (i : Int) ∧ Below W0.heap.size W0 wr ∧ ∀ j, j < i → (nthNa n.arcs j).t = v → ¬ nth T j < (nthNa n.arcs j).k)
  case atStart => exact ⟨0, Nat.zero_le _, rfl, rfl, Below.refl _ _, fun j hj => by omega⟩
  case round =>
    obtain ⟨i, hi, rfl, rfl, hb7, hno⟩ := hrel
    have B7 := hiddenN hb7
    have HNO := hiddenN hno
    clear hb7 hno
    have z1 := (X.out.below B7.out).cell (k := 1) rfl
    simp only [List.getElem_toArray, List.getElem_cons_zero, List.getElem_cons_succ] at z1
    by_cases hil : i < n.arcs.length
    · have hii : (i : Int) < (n.arcs.length : Int) := by omega
      have z0 := (X.out.below B7.out).cell (k := 0) rfl
      have z2 := (X.out.below B7.out).cell (k := 2) rfl
      simp only [List.getElem_toArray, List.getElem_cons_zero, List.getElem_cons_succ] at z0 z2
      have HD := hiddenN (H.out.below B7.out)
      rcases HD.out.arcs with e | ⟨ab, ao, ea, hca⟩
      · rw [e] at hil; simp at hil
      obtain ⟨-, a1, -, a3, -⟩ := hca i hil
      have hei := HE.out i hil
      have HX := hiddenN (fun (U : World) (hb : Below wr.heap.size wr U) => has10_any U n a c g N F (HD.out.below hb) i hil)
      have HS := hiddenN (SF.out i hil)
      have HZ : Hid (¬ ((nthNa n.arcs i).t = v ∧ nth T i < (nthNa n.arcs i).k) → ∀ j, j < i + 1 → (nthNa n.arcs j).t = v → ¬ nth T j < (nthNa n.arcs j).k) := fun h0 j hj hjt hjl => by
        by_cases e : j = i
        · subst e; exact h0 ⟨hjt, hjl⟩
        · exact HNO.out j (by omega) hjt hjl
      rw [← hei] at HX
      subst ea
      generalize (nthNa n.arcs i).t = tt at *
      generalize (nthNa n.arcs i).k = kk at *
      generalize nth T i = hx at *
      have HH : Hid (∀ U, Below wr.heap.size wr U → Calls Try.prog 51 #[.agg #[.int .i64 n.nodes, .slice (some ⟨ab, ao, none⟩) n.arcs.length c, .slice (some ⟨g, 0, none⟩) N N], .int .i64 (i : Int)] U fun e w' => e = .returned (.int .i64 hx) ∧ Below U.heap.size U w') := fun U hb => HX.out U hb
      clear hca HX hei
      by_cases htv : tt = v
      · have hbe : (tt == v) = true := by simpa using htv
        obtain ⟨bl, hbl⟩ : ∃ b, decide (hx < kk) = b := ⟨_, rfl⟩
        go_upto_region 4 with fail

        refine wp_region_gen [] (fun d i_ u z => match i_ with
            | 0 => z = .pointer (some ⟨w.heap.size, 0, none⟩)
            | 1 => z = .pointer (some ⟨w.heap.size, 1, none⟩)
            | 2 => z = .slice (some ⟨ab, ao, none⟩) n.arcs.length c
            | 3 => z = .int .i64 (i : Int)
            | 4 => z = .pointer (some ⟨ab, ao + i * 5, none⟩)
            | 5 => z = .pointer (some ⟨ab, ao + i * 5 + 1, none⟩)
            | 6 => z = .int .i64 tt
            | 7 => z = .int .i64 v
            | 8 => z = .bool true
            | 9 => z = .bool true
            | 10 => z = .agg #[.int .i64 n.nodes, .slice (some ⟨ab, ao, none⟩) n.arcs.length c, .slice (some ⟨g, 0, none⟩) N N]
            | 11 => z = .int .i64 (i : Int)
            | 12 => z = .int .i64 hx
            | 13 => z = .pointer (some ⟨w.heap.size, 0, none⟩)
            | 14 => z = .pointer (some ⟨w.heap.size, 1, none⟩)
            | 15 => z = .slice (some ⟨ab, ao, none⟩) n.arcs.length c
            | 16 => z = .int .i64 (i : Int)
            | 17 => z = .pointer (some ⟨ab, ao + i * 5, none⟩)
            | 18 => z = .pointer (some ⟨ab, ao + i * 5 + 3, none⟩)
            | 19 => z = .int .i64 kk
            | 20 => z = .bool bl
            | 21 => z = .bool bl
            | _ => True) (fun _ u => Below wr.heap.size wr u) (by kernel_rfl) (by kernel_rfl) (by kernel_rfl) ?_ ?_ ?_ ?_ ?_ ?_ (by kernel_rfl)
        · intro d i_ w v w' h hb
          match i_, h with
          | 0, h => exact h
          | 1, h => exact h
          | 2, h => exact h
          | 3, h => exact h
          | 4, h => exact h
          | 5, h => exact h
          | 6, h => exact h
          | 7, h => exact h
          | 8, h => exact h
          | 9, h => exact h
          | 10, h => exact h
          | 11, h => exact h
          | 12, h => exact h
          | 13, h => exact h
          | 14, h => exact h
          | 15, h => exact h
          | 16, h => exact h
          | 17, h => exact h
          | 18, h => exact h
          | 19, h => exact h
          | 20, h => exact h
          | 21, h => exact h
          | _ + 22, _ => trivial
        · intro d u u' h hb
          exact h.trans (hb.mono h.size)
        · exact Below.refl _ _
        · intro d i_ o ρ w' hm ho hf hg hC hcs hfs hfr hdep
          match i_, hm, ho, hf, hg, hfr, hdep with
          | 0, _, ho, hf, hg, hfr, hdep =>
            simp only [List.getElem?_toArray, List.getElem?_cons_zero, Option.some.injEq] at ho
            subst ho
            refine ⟨fun _ => ?_, fun hw => absurd (show true = false from hw) (by decide)⟩
            have ts : ρ (.tmp 2) = .pointer (some ⟨w.heap.size, 0, none⟩) := hfr 2 (by kernel_rfl)
            simp [go_sem, ts]
            exact ⟨Below.refl _ _, rfl⟩
          | 1, _, ho, hf, hg, hfr, hdep =>
            simp only [List.getElem?_toArray, List.getElem?_cons_zero, List.getElem?_cons_succ, Option.some.injEq] at ho
            subst ho
            refine ⟨fun _ => ?_, fun hw => absurd (show true = false from hw) (by decide)⟩
            have d0 : ρ (.tmp 14) = .pointer (some ⟨w.heap.size, 0, none⟩) := hdep 0 14 (by kernel_rfl) (by kernel_rfl)
            simp [go_sem, d0]
            exact ⟨Below.refl _ _, rfl⟩
          | 2, _, ho, hf, hg, hfr, hdep =>
            simp only [List.getElem?_toArray, List.getElem?_cons_zero, List.getElem?_cons_succ, Option.some.injEq] at ho
            subst ho
            refine ⟨fun _ => ?_, fun hw => absurd (show true = false from hw) (by decide)⟩
            have cc : w'.cell? ⟨w.heap.size, 1, none⟩ = some (.slice (some ⟨ab, ao, none⟩) n.arcs.length c) := cellN_later hC z1
            have d0 : ρ (.tmp 15) = .pointer (some ⟨w.heap.size, 1, none⟩) := hdep 1 15 (by kernel_rfl) (by kernel_rfl)
            simp [go_sem, d0, cc]
            exact ⟨Below.refl _ _, rfl⟩
          | 3, _, ho, hf, hg, hfr, hdep =>
            simp only [List.getElem?_toArray, List.getElem?_cons_zero, List.getElem?_cons_succ, Option.some.injEq] at ho
            subst ho
            refine ⟨fun _ => ?_, fun hw => absurd (show true = false from hw) (by decide)⟩
            have ts : ρ (.tmp 5) = .int .i64 (i : Int) := hfr 5 (by kernel_rfl)
            simp [go_sem, ts]
            exact ⟨Below.refl _ _, rfl⟩
          | 4, _, ho, hf, hg, hfr, hdep =>
            simp only [List.getElem?_toArray, List.getElem?_cons_zero, List.getElem?_cons_succ, Option.some.injEq] at ho
            subst ho
            refine ⟨fun _ => ?_, fun hw => absurd (show true = false from hw) (by decide)⟩
            have d0 : ρ (.tmp 16) = .slice (some ⟨ab, ao, none⟩) n.arcs.length c := hdep 2 16 (by kernel_rfl) (by kernel_rfl)
            have d1 : ρ (.tmp 17) = .int .i64 (i : Int) := hdep 3 17 (by kernel_rfl) (by kernel_rfl)
            simp [go_sem, d0, d1, hil]
            exact ⟨Below.refl _ _, rfl⟩
          | 5, _, ho, hf, hg, hfr, hdep =>
            simp only [List.getElem?_toArray, List.getElem?_cons_zero, List.getElem?_cons_succ, Option.some.injEq] at ho
            subst ho
            refine ⟨fun _ => ?_, fun hw => absurd (show true = false from hw) (by decide)⟩
            have d0 : ρ (.tmp 18) = .pointer (some ⟨ab, ao + i * 5, none⟩) := hdep 4 18 (by kernel_rfl) (by kernel_rfl)
            simp [go_sem, d0]
            exact ⟨Below.refl _ _, rfl⟩
          | 6, _, ho, hf, hg, hfr, hdep =>
            simp only [List.getElem?_toArray, List.getElem?_cons_zero, List.getElem?_cons_succ, Option.some.injEq] at ho
            subst ho
            refine ⟨fun _ => ?_, fun hw => absurd (show true = false from hw) (by decide)⟩
            have cc : w'.cell? ⟨ab, ao + i * 5 + 1, none⟩ = some (.int .i64 tt) := cellN_later hC a1
            have d0 : ρ (.tmp 19) = .pointer (some ⟨ab, ao + i * 5 + 1, none⟩) := hdep 5 19 (by kernel_rfl) (by kernel_rfl)
            simp [go_sem, d0, cc]
            exact ⟨Below.refl _ _, rfl⟩
          | 7, _, ho, hf, hg, hfr, hdep =>
            simp only [List.getElem?_toArray, List.getElem?_cons_zero, List.getElem?_cons_succ, Option.some.injEq] at ho
            subst ho
            refine ⟨fun _ => ?_, fun hw => absurd (show true = false from hw) (by decide)⟩
            have ts : ρ (.tmp 1) = .int .i64 v := hfr 1 (by kernel_rfl)
            simp [go_sem, ts]
            exact ⟨Below.refl _ _, rfl⟩
          | 8, _, ho, hf, hg, hfr, hdep =>
            simp only [List.getElem?_toArray, List.getElem?_cons_zero, List.getElem?_cons_succ, Option.some.injEq] at ho
            subst ho
            refine ⟨fun _ => ?_, fun hw => absurd (show true = false from hw) (by decide)⟩
            have d0 : ρ (.tmp 20) = .int .i64 tt := hdep 6 20 (by kernel_rfl) (by kernel_rfl)
            have d1 : ρ (.tmp 21) = .int .i64 v := hdep 7 21 (by kernel_rfl) (by kernel_rfl)
            simp [go_sem, d0, d1, hbe]
            exact ⟨Below.refl _ _, rfl⟩
          | 9, _, ho, hf, hg, hfr, hdep =>
            simp only [List.getElem?_toArray, List.getElem?_cons_zero, List.getElem?_cons_succ, Option.some.injEq] at ho
            subst ho
            refine ⟨fun _ => ?_, fun hw => absurd (show true = false from hw) (by decide)⟩
            have d0 : ρ (.tmp 22) = .bool true := hdep 8 22 (by kernel_rfl) (by kernel_rfl)
            simp [go_sem, d0]
            exact ⟨Below.refl _ _, rfl⟩
          | 10, _, ho, hf, hg, hfr, hdep =>
            simp only [List.getElem?_toArray, List.getElem?_cons_zero, List.getElem?_cons_succ, Option.some.injEq] at ho
            subst ho
            have gd : ρ (.tmp 23) = .bool true := hdep 9 23 (by kernel_rfl) (by kernel_rfl)
            refine ⟨fun _ => ?_, fun hw => absurd (show (match ρ (.tmp 23) with | .bool c => c == true | _ => false) = false from hw) (by rw [gd]; decide)⟩
            clear gd
            have ts : ρ (.tmp 2) = .pointer (some ⟨w.heap.size, 0, none⟩) := hfr 2 (by kernel_rfl)
            have k0 := cellN_later hC z0
            have k1 := cellN_later hC z1
            have k2 := cellN_later hC z2
            simp [go_sem, ts, k0, k1, k2]
            exact ⟨Below.refl _ _, rfl⟩
          | 11, _, ho, hf, hg, hfr, hdep =>
            simp only [List.getElem?_toArray, List.getElem?_cons_zero, List.getElem?_cons_succ, Option.some.injEq] at ho
            subst ho
            have gd : ρ (.tmp 23) = .bool true := hdep 9 23 (by kernel_rfl) (by kernel_rfl)
            refine ⟨fun _ => ?_, fun hw => absurd (show (match ρ (.tmp 23) with | .bool c => c == true | _ => false) = false from hw) (by rw [gd]; decide)⟩
            clear gd
            have ts : ρ (.tmp 5) = .int .i64 (i : Int) := hfr 5 (by kernel_rfl)
            simp [go_sem, ts]
            exact ⟨Below.refl _ _, rfl⟩
          | 12, _, ho, hf, hg, hfr, hdep =>
            simp only [List.getElem?_toArray, List.getElem?_cons_zero, List.getElem?_cons_succ, Option.some.injEq] at ho
            subst ho
            have gd : ρ (.tmp 23) = .bool true := hdep 9 23 (by kernel_rfl) (by kernel_rfl)
            refine ⟨fun _ => ?_, fun hw => absurd (show (match ρ (.tmp 23) with | .bool c => c == true | _ => false) = false from hw) (by rw [gd]; decide)⟩
            clear gd
            have d0 : ρ (.tmp 24) = .agg #[.int .i64 n.nodes, .slice (some ⟨ab, ao, none⟩) n.arcs.length c, .slice (some ⟨g, 0, none⟩) N N] := hdep 10 24 (by kernel_rfl) (by kernel_rfl)
            have d1 : ρ (.tmp 25) = .int .i64 (i : Int) := hdep 11 25 (by kernel_rfl) (by kernel_rfl)
            simp [go_sem, d0, d1, hfs]
            exact ⟨rfl, (HH.out w' hC).mono fun e w'' hh => ⟨_, hh.1, hh.2, rfl⟩⟩
          | 13, _, ho, hf, hg, hfr, hdep =>
            simp only [List.getElem?_toArray, List.getElem?_cons_zero, List.getElem?_cons_succ, Option.some.injEq] at ho
            subst ho
            have gd : ρ (.tmp 23) = .bool true := hdep 9 23 (by kernel_rfl) (by kernel_rfl)
            refine ⟨fun _ => ?_, fun hw => absurd (show (match ρ (.tmp 23) with | .bool c => c == true | _ => false) = false from hw) (by rw [gd]; decide)⟩
            clear gd
            have ts : ρ (.tmp 2) = .pointer (some ⟨w.heap.size, 0, none⟩) := hfr 2 (by kernel_rfl)
            simp [go_sem, ts]
            exact ⟨Below.refl _ _, rfl⟩
          | 14, _, ho, hf, hg, hfr, hdep =>
            simp only [List.getElem?_toArray, List.getElem?_cons_zero, List.getElem?_cons_succ, Option.some.injEq] at ho
            subst ho
            have gd : ρ (.tmp 23) = .bool true := hdep 9 23 (by kernel_rfl) (by kernel_rfl)
            refine ⟨fun _ => ?_, fun hw => absurd (show (match ρ (.tmp 23) with | .bool c => c == true | _ => false) = false from hw) (by rw [gd]; decide)⟩
            clear gd
            have d0 : ρ (.tmp 27) = .pointer (some ⟨w.heap.size, 0, none⟩) := hdep 13 27 (by kernel_rfl) (by kernel_rfl)
            simp [go_sem, d0]
            exact ⟨Below.refl _ _, rfl⟩
          | 15, _, ho, hf, hg, hfr, hdep =>
            simp only [List.getElem?_toArray, List.getElem?_cons_zero, List.getElem?_cons_succ, Option.some.injEq] at ho
            subst ho
            have gd : ρ (.tmp 23) = .bool true := hdep 9 23 (by kernel_rfl) (by kernel_rfl)
            refine ⟨fun _ => ?_, fun hw => absurd (show (match ρ (.tmp 23) with | .bool c => c == true | _ => false) = false from hw) (by rw [gd]; decide)⟩
            clear gd
            have cc : w'.cell? ⟨w.heap.size, 1, none⟩ = some (.slice (some ⟨ab, ao, none⟩) n.arcs.length c) := cellN_later hC z1
            have d0 : ρ (.tmp 28) = .pointer (some ⟨w.heap.size, 1, none⟩) := hdep 14 28 (by kernel_rfl) (by kernel_rfl)
            simp [go_sem, d0, cc]
            exact ⟨Below.refl _ _, rfl⟩
          | 16, _, ho, hf, hg, hfr, hdep =>
            simp only [List.getElem?_toArray, List.getElem?_cons_zero, List.getElem?_cons_succ, Option.some.injEq] at ho
            subst ho
            have gd : ρ (.tmp 23) = .bool true := hdep 9 23 (by kernel_rfl) (by kernel_rfl)
            refine ⟨fun _ => ?_, fun hw => absurd (show (match ρ (.tmp 23) with | .bool c => c == true | _ => false) = false from hw) (by rw [gd]; decide)⟩
            clear gd
            have ts : ρ (.tmp 5) = .int .i64 (i : Int) := hfr 5 (by kernel_rfl)
            simp [go_sem, ts]
            exact ⟨Below.refl _ _, rfl⟩
          | 17, _, ho, hf, hg, hfr, hdep =>
            simp only [List.getElem?_toArray, List.getElem?_cons_zero, List.getElem?_cons_succ, Option.some.injEq] at ho
            subst ho
            have gd : ρ (.tmp 23) = .bool true := hdep 9 23 (by kernel_rfl) (by kernel_rfl)
            refine ⟨fun _ => ?_, fun hw => absurd (show (match ρ (.tmp 23) with | .bool c => c == true | _ => false) = false from hw) (by rw [gd]; decide)⟩
            clear gd
            have d0 : ρ (.tmp 29) = .slice (some ⟨ab, ao, none⟩) n.arcs.length c := hdep 15 29 (by kernel_rfl) (by kernel_rfl)
            have d1 : ρ (.tmp 30) = .int .i64 (i : Int) := hdep 16 30 (by kernel_rfl) (by kernel_rfl)
            simp [go_sem, d0, d1, hil]
            exact ⟨Below.refl _ _, rfl⟩
          | 18, _, ho, hf, hg, hfr, hdep =>
            simp only [List.getElem?_toArray, List.getElem?_cons_zero, List.getElem?_cons_succ, Option.some.injEq] at ho
            subst ho
            have gd : ρ (.tmp 23) = .bool true := hdep 9 23 (by kernel_rfl) (by kernel_rfl)
            refine ⟨fun _ => ?_, fun hw => absurd (show (match ρ (.tmp 23) with | .bool c => c == true | _ => false) = false from hw) (by rw [gd]; decide)⟩
            clear gd
            have d0 : ρ (.tmp 31) = .pointer (some ⟨ab, ao + i * 5, none⟩) := hdep 17 31 (by kernel_rfl) (by kernel_rfl)
            simp [go_sem, d0]
            exact ⟨Below.refl _ _, rfl⟩
          | 19, _, ho, hf, hg, hfr, hdep =>
            simp only [List.getElem?_toArray, List.getElem?_cons_zero, List.getElem?_cons_succ, Option.some.injEq] at ho
            subst ho
            have gd : ρ (.tmp 23) = .bool true := hdep 9 23 (by kernel_rfl) (by kernel_rfl)
            refine ⟨fun _ => ?_, fun hw => absurd (show (match ρ (.tmp 23) with | .bool c => c == true | _ => false) = false from hw) (by rw [gd]; decide)⟩
            clear gd
            have cc : w'.cell? ⟨ab, ao + i * 5 + 3, none⟩ = some (.int .i64 kk) := cellN_later hC a3
            have d0 : ρ (.tmp 32) = .pointer (some ⟨ab, ao + i * 5 + 3, none⟩) := hdep 18 32 (by kernel_rfl) (by kernel_rfl)
            simp [go_sem, d0, cc]
            exact ⟨Below.refl _ _, rfl⟩
          | 20, _, ho, hf, hg, hfr, hdep =>
            simp only [List.getElem?_toArray, List.getElem?_cons_zero, List.getElem?_cons_succ, Option.some.injEq] at ho
            subst ho
            have gd : ρ (.tmp 23) = .bool true := hdep 9 23 (by kernel_rfl) (by kernel_rfl)
            refine ⟨fun _ => ?_, fun hw => absurd (show (match ρ (.tmp 23) with | .bool c => c == true | _ => false) = false from hw) (by rw [gd]; decide)⟩
            clear gd
            have d0 : ρ (.tmp 26) = .int .i64 hx := hdep 12 26 (by kernel_rfl) (by kernel_rfl)
            have d1 : ρ (.tmp 33) = .int .i64 kk := hdep 19 33 (by kernel_rfl) (by kernel_rfl)
            simp [go_sem, d0, d1, hbl]
            exact ⟨Below.refl _ _, rfl⟩
          | 21, _, ho, hf, hg, hfr, hdep =>
            simp only [List.getElem?_toArray, List.getElem?_cons_zero, List.getElem?_cons_succ, Option.some.injEq] at ho
            subst ho
            refine ⟨fun _ => ?_, fun hw => absurd (show true = false from hw) (by decide)⟩
            have d0 : ρ (.tmp 23) = .bool true := hdep 9 23 (by kernel_rfl) (by kernel_rfl)
            have d1 : ρ (.tmp 34) = .bool bl := hdep 20 34 (by kernel_rfl) (by kernel_rfl)
            simp [go_sem, d0, d1]
            exact ⟨Below.refl _ _, rfl⟩
          | n + 22, _, ho, _, _, _, _ => simp at ho
        · intro d i_ o ρ w' hm ho h0 hf hg hC hcs hfs hfr hdep
          exact absurd hm (by simp)
        · intro V w9 hC9 hS
          have e21 : V 21 = .bool bl := hS 21 (by decide) (by intro h; cases h)
          simp only [puts, e21]
          simp only [Act.put, List.setIfInBounds_toArray, List.set_cons_zero, List.set_cons_succ]
          clear hS e21
          have B9 := hiddenN (B7.out.trans (hC9.mono B7.out.size))
          clear hC9
          cases bl with
          | true =>
            have hlt := of_decide_eq_true hbl
            go_wp2
            go_ret
            rw [HS.out htv hlt HNO.out]
            exact ⟨rfl, B0.out.trans (B9.out.mono B0.out.size)⟩
          | false =>
            have hlt := of_decide_eq_false hbl
            go_wp2
            go_roundg (n.arcs.length - (i + 1))
            case measure => omega
            case rel => exact ⟨i + 1, by omega, rfl, by go_num, B9.out, HZ.out (fun e => by have := e.2; omega)⟩
      · have hbe : (tt == v) = false := by simpa using htv
        go_upto_region 4 with fail

        refine wp_region_gen [] (fun d i_ u z => match i_ with
            | 0 => z = .pointer (some ⟨w.heap.size, 0, none⟩)
            | 1 => z = .pointer (some ⟨w.heap.size, 1, none⟩)
            | 2 => z = .slice (some ⟨ab, ao, none⟩) n.arcs.length c
            | 3 => z = .int .i64 (i : Int)
            | 4 => z = .pointer (some ⟨ab, ao + i * 5, none⟩)
            | 5 => z = .pointer (some ⟨ab, ao + i * 5 + 1, none⟩)
            | 6 => z = .int .i64 tt
            | 7 => z = .int .i64 v
            | 8 => z = .bool false
            | 9 => z = .bool false
            | 10 => z = undef
            | 11 => z = undef
            | 12 => z = undef
            | 13 => z = undef
            | 14 => z = undef
            | 15 => z = undef
            | 16 => z = undef
            | 17 => z = undef
            | 18 => z = undef
            | 19 => z = undef
            | 20 => z = undef
            | 21 => z = .bool false
            | _ => True) (fun _ u => Below wr.heap.size wr u) (by kernel_rfl) (by kernel_rfl) (by kernel_rfl) ?_ ?_ ?_ ?_ ?_ ?_ (by kernel_rfl)
        · intro d i_ w v w' h hb
          match i_, h with
          | 0, h => exact h
          | 1, h => exact h
          | 2, h => exact h
          | 3, h => exact h
          | 4, h => exact h
          | 5, h => exact h
          | 6, h => exact h
          | 7, h => exact h
          | 8, h => exact h
          | 9, h => exact h
          | 10, h => exact h
          | 11, h => exact h
          | 12, h => exact h
          | 13, h => exact h
          | 14, h => exact h
          | 15, h => exact h
          | 16, h => exact h
          | 17, h => exact h
          | 18, h => exact h
          | 19, h => exact h
          | 20, h => exact h
          | 21, h => exact h
          | _ + 22, _ => trivial
        · intro d u u' h hb
          exact h.trans (hb.mono h.size)
        · exact Below.refl _ _
        · intro d i_ o ρ w' hm ho hf hg hC hcs hfs hfr hdep
          match i_, hm, ho, hf, hg, hfr, hdep with
          | 0, _, ho, hf, hg, hfr, hdep =>
            simp only [List.getElem?_toArray, List.getElem?_cons_zero, Option.some.injEq] at ho
            subst ho
            refine ⟨fun _ => ?_, fun hw => absurd (show true = false from hw) (by decide)⟩
            have ts : ρ (.tmp 2) = .pointer (some ⟨w.heap.size, 0, none⟩) := hfr 2 (by kernel_rfl)
            simp [go_sem, ts]
            exact ⟨Below.refl _ _, rfl⟩
          | 1, _, ho, hf, hg, hfr, hdep =>
            simp only [List.getElem?_toArray, List.getElem?_cons_zero, List.getElem?_cons_succ, Option.some.injEq] at ho
            subst ho
            refine ⟨fun _ => ?_, fun hw => absurd (show true = false from hw) (by decide)⟩
            have d0 : ρ (.tmp 14) = .pointer (some ⟨w.heap.size, 0, none⟩) := hdep 0 14 (by kernel_rfl) (by kernel_rfl)
            simp [go_sem, d0]
            exact ⟨Below.refl _ _, rfl⟩
          | 2, _, ho, hf, hg, hfr, hdep =>
            simp only [List.getElem?_toArray, List.getElem?_cons_zero, List.getElem?_cons_succ, Option.some.injEq] at ho
            subst ho
            refine ⟨fun _ => ?_, fun hw => absurd (show true = false from hw) (by decide)⟩
            have cc : w'.cell? ⟨w.heap.size, 1, none⟩ = some (.slice (some ⟨ab, ao, none⟩) n.arcs.length c) := cellN_later hC z1
            have d0 : ρ (.tmp 15) = .pointer (some ⟨w.heap.size, 1, none⟩) := hdep 1 15 (by kernel_rfl) (by kernel_rfl)
            simp [go_sem, d0, cc]
            exact ⟨Below.refl _ _, rfl⟩
          | 3, _, ho, hf, hg, hfr, hdep =>
            simp only [List.getElem?_toArray, List.getElem?_cons_zero, List.getElem?_cons_succ, Option.some.injEq] at ho
            subst ho
            refine ⟨fun _ => ?_, fun hw => absurd (show true = false from hw) (by decide)⟩
            have ts : ρ (.tmp 5) = .int .i64 (i : Int) := hfr 5 (by kernel_rfl)
            simp [go_sem, ts]
            exact ⟨Below.refl _ _, rfl⟩
          | 4, _, ho, hf, hg, hfr, hdep =>
            simp only [List.getElem?_toArray, List.getElem?_cons_zero, List.getElem?_cons_succ, Option.some.injEq] at ho
            subst ho
            refine ⟨fun _ => ?_, fun hw => absurd (show true = false from hw) (by decide)⟩
            have d0 : ρ (.tmp 16) = .slice (some ⟨ab, ao, none⟩) n.arcs.length c := hdep 2 16 (by kernel_rfl) (by kernel_rfl)
            have d1 : ρ (.tmp 17) = .int .i64 (i : Int) := hdep 3 17 (by kernel_rfl) (by kernel_rfl)
            simp [go_sem, d0, d1, hil]
            exact ⟨Below.refl _ _, rfl⟩
          | 5, _, ho, hf, hg, hfr, hdep =>
            simp only [List.getElem?_toArray, List.getElem?_cons_zero, List.getElem?_cons_succ, Option.some.injEq] at ho
            subst ho
            refine ⟨fun _ => ?_, fun hw => absurd (show true = false from hw) (by decide)⟩
            have d0 : ρ (.tmp 18) = .pointer (some ⟨ab, ao + i * 5, none⟩) := hdep 4 18 (by kernel_rfl) (by kernel_rfl)
            simp [go_sem, d0]
            exact ⟨Below.refl _ _, rfl⟩
          | 6, _, ho, hf, hg, hfr, hdep =>
            simp only [List.getElem?_toArray, List.getElem?_cons_zero, List.getElem?_cons_succ, Option.some.injEq] at ho
            subst ho
            refine ⟨fun _ => ?_, fun hw => absurd (show true = false from hw) (by decide)⟩
            have cc : w'.cell? ⟨ab, ao + i * 5 + 1, none⟩ = some (.int .i64 tt) := cellN_later hC a1
            have d0 : ρ (.tmp 19) = .pointer (some ⟨ab, ao + i * 5 + 1, none⟩) := hdep 5 19 (by kernel_rfl) (by kernel_rfl)
            simp [go_sem, d0, cc]
            exact ⟨Below.refl _ _, rfl⟩
          | 7, _, ho, hf, hg, hfr, hdep =>
            simp only [List.getElem?_toArray, List.getElem?_cons_zero, List.getElem?_cons_succ, Option.some.injEq] at ho
            subst ho
            refine ⟨fun _ => ?_, fun hw => absurd (show true = false from hw) (by decide)⟩
            have ts : ρ (.tmp 1) = .int .i64 v := hfr 1 (by kernel_rfl)
            simp [go_sem, ts]
            exact ⟨Below.refl _ _, rfl⟩
          | 8, _, ho, hf, hg, hfr, hdep =>
            simp only [List.getElem?_toArray, List.getElem?_cons_zero, List.getElem?_cons_succ, Option.some.injEq] at ho
            subst ho
            refine ⟨fun _ => ?_, fun hw => absurd (show true = false from hw) (by decide)⟩
            have d0 : ρ (.tmp 20) = .int .i64 tt := hdep 6 20 (by kernel_rfl) (by kernel_rfl)
            have d1 : ρ (.tmp 21) = .int .i64 v := hdep 7 21 (by kernel_rfl) (by kernel_rfl)
            simp [go_sem, d0, d1, hbe]
            exact ⟨Below.refl _ _, rfl⟩
          | 9, _, ho, hf, hg, hfr, hdep =>
            simp only [List.getElem?_toArray, List.getElem?_cons_zero, List.getElem?_cons_succ, Option.some.injEq] at ho
            subst ho
            refine ⟨fun _ => ?_, fun hw => absurd (show true = false from hw) (by decide)⟩
            have d0 : ρ (.tmp 22) = .bool false := hdep 8 22 (by kernel_rfl) (by kernel_rfl)
            simp [go_sem, d0]
            exact ⟨Below.refl _ _, rfl⟩
          | 10, _, ho, hf, hg, hfr, hdep =>
            simp only [List.getElem?_toArray, List.getElem?_cons_zero, List.getElem?_cons_succ, Option.some.injEq] at ho
            subst ho
            have gd : ρ (.tmp 23) = .bool false := hdep 9 23 (by kernel_rfl) (by kernel_rfl)
            exact ⟨fun hw => absurd (show (match ρ (.tmp 23) with | .bool c => c == true | _ => false) = true from hw) (by rw [gd]; decide), fun _ => rfl⟩
          | 11, _, ho, hf, hg, hfr, hdep =>
            simp only [List.getElem?_toArray, List.getElem?_cons_zero, List.getElem?_cons_succ, Option.some.injEq] at ho
            subst ho
            have gd : ρ (.tmp 23) = .bool false := hdep 9 23 (by kernel_rfl) (by kernel_rfl)
            exact ⟨fun hw => absurd (show (match ρ (.tmp 23) with | .bool c => c == true | _ => false) = true from hw) (by rw [gd]; decide), fun _ => rfl⟩
          | 12, _, ho, hf, hg, hfr, hdep =>
            simp only [List.getElem?_toArray, List.getElem?_cons_zero, List.getElem?_cons_succ, Option.some.injEq] at ho
            subst ho
            have gd : ρ (.tmp 23) = .bool false := hdep 9 23 (by kernel_rfl) (by kernel_rfl)
            exact ⟨fun hw => absurd (show (match ρ (.tmp 23) with | .bool c => c == true | _ => false) = true from hw) (by rw [gd]; decide), fun _ => rfl⟩
          | 13, _, ho, hf, hg, hfr, hdep =>
            simp only [List.getElem?_toArray, List.getElem?_cons_zero, List.getElem?_cons_succ, Option.some.injEq] at ho
            subst ho
            have gd : ρ (.tmp 23) = .bool false := hdep 9 23 (by kernel_rfl) (by kernel_rfl)
            exact ⟨fun hw => absurd (show (match ρ (.tmp 23) with | .bool c => c == true | _ => false) = true from hw) (by rw [gd]; decide), fun _ => rfl⟩
          | 14, _, ho, hf, hg, hfr, hdep =>
            simp only [List.getElem?_toArray, List.getElem?_cons_zero, List.getElem?_cons_succ, Option.some.injEq] at ho
            subst ho
            have gd : ρ (.tmp 23) = .bool false := hdep 9 23 (by kernel_rfl) (by kernel_rfl)
            exact ⟨fun hw => absurd (show (match ρ (.tmp 23) with | .bool c => c == true | _ => false) = true from hw) (by rw [gd]; decide), fun _ => rfl⟩
          | 15, _, ho, hf, hg, hfr, hdep =>
            simp only [List.getElem?_toArray, List.getElem?_cons_zero, List.getElem?_cons_succ, Option.some.injEq] at ho
            subst ho
            have gd : ρ (.tmp 23) = .bool false := hdep 9 23 (by kernel_rfl) (by kernel_rfl)
            exact ⟨fun hw => absurd (show (match ρ (.tmp 23) with | .bool c => c == true | _ => false) = true from hw) (by rw [gd]; decide), fun _ => rfl⟩
          | 16, _, ho, hf, hg, hfr, hdep =>
            simp only [List.getElem?_toArray, List.getElem?_cons_zero, List.getElem?_cons_succ, Option.some.injEq] at ho
            subst ho
            have gd : ρ (.tmp 23) = .bool false := hdep 9 23 (by kernel_rfl) (by kernel_rfl)
            exact ⟨fun hw => absurd (show (match ρ (.tmp 23) with | .bool c => c == true | _ => false) = true from hw) (by rw [gd]; decide), fun _ => rfl⟩
          | 17, _, ho, hf, hg, hfr, hdep =>
            simp only [List.getElem?_toArray, List.getElem?_cons_zero, List.getElem?_cons_succ, Option.some.injEq] at ho
            subst ho
            have gd : ρ (.tmp 23) = .bool false := hdep 9 23 (by kernel_rfl) (by kernel_rfl)
            exact ⟨fun hw => absurd (show (match ρ (.tmp 23) with | .bool c => c == true | _ => false) = true from hw) (by rw [gd]; decide), fun _ => rfl⟩
          | 18, _, ho, hf, hg, hfr, hdep =>
            simp only [List.getElem?_toArray, List.getElem?_cons_zero, List.getElem?_cons_succ, Option.some.injEq] at ho
            subst ho
            have gd : ρ (.tmp 23) = .bool false := hdep 9 23 (by kernel_rfl) (by kernel_rfl)
            exact ⟨fun hw => absurd (show (match ρ (.tmp 23) with | .bool c => c == true | _ => false) = true from hw) (by rw [gd]; decide), fun _ => rfl⟩
          | 19, _, ho, hf, hg, hfr, hdep =>
            simp only [List.getElem?_toArray, List.getElem?_cons_zero, List.getElem?_cons_succ, Option.some.injEq] at ho
            subst ho
            have gd : ρ (.tmp 23) = .bool false := hdep 9 23 (by kernel_rfl) (by kernel_rfl)
            exact ⟨fun hw => absurd (show (match ρ (.tmp 23) with | .bool c => c == true | _ => false) = true from hw) (by rw [gd]; decide), fun _ => rfl⟩
          | 20, _, ho, hf, hg, hfr, hdep =>
            simp only [List.getElem?_toArray, List.getElem?_cons_zero, List.getElem?_cons_succ, Option.some.injEq] at ho
            subst ho
            have gd : ρ (.tmp 23) = .bool false := hdep 9 23 (by kernel_rfl) (by kernel_rfl)
            exact ⟨fun hw => absurd (show (match ρ (.tmp 23) with | .bool c => c == true | _ => false) = true from hw) (by rw [gd]; decide), fun _ => rfl⟩
          | 21, _, ho, hf, hg, hfr, hdep =>
            simp only [List.getElem?_toArray, List.getElem?_cons_zero, List.getElem?_cons_succ, Option.some.injEq] at ho
            subst ho
            refine ⟨fun _ => ?_, fun hw => absurd (show true = false from hw) (by decide)⟩
            have d0 : ρ (.tmp 23) = .bool false := hdep 9 23 (by kernel_rfl) (by kernel_rfl)
            simp [go_sem, d0, hcs]
            exact ⟨Below.refl _ _, rfl⟩
          | n + 22, _, ho, _, _, _, _ => simp at ho
        · intro d i_ o ρ w' hm ho h0 hf hg hC hcs hfs hfr hdep
          exact absurd hm (by simp)
        · intro V w9 hC9 hS
          have e21 : V 21 = .bool false := hS 21 (by decide) (by intro h; cases h)
          simp only [puts, e21]
          simp only [Act.put, List.setIfInBounds_toArray, List.set_cons_zero, List.set_cons_succ]
          clear hS e21
          have B9 := hiddenN (B7.out.trans (hC9.mono B7.out.size))
          clear hC9
          go_wp2
          go_roundg (n.arcs.length - (i + 1))
          case measure => omega
          case rel => exact ⟨i + 1, by omega, rfl, by go_num, B9.out, HZ.out (fun e => htv e.1)⟩
    · have ei : i = n.arcs.length := by omega
      have hii : ¬ (i : Int) < (n.arcs.length : Int) := by omega
      have hz := hiddenN (short_never (n := n) (T := T) (v := v) (fun j hj => HNO.out j (by omega)))
      go_wp2
      go_ret
      rw [hz.out]
      exact ⟨rfl, B0.out.trans (B7.out.mono B0.out.size)⟩
end Go.Proofs.Ytancphohpedigaa

/- Texts of one chain, laid one behind the other. -/
import Derived.Test.YtdifaobfomfieaaPartWitnessDenies25
import Derived.Test.YtdifaobfomfieaaPartWitnessDenies26
import Derived.Test.YtdifaobfomfieaaPartWitnessDenies7
import Derived.Test.YtdifaobfomfieaaPartWitnessDenies16
namespace Go.Proofs.Ytdifaobfomfieaa
open Go.ChangeShapes Go.WideShapes Go.ChangeAt Go.RowKit
/-- A box that was laid since. -/
def NewB (B : Nat) (T : TypeId) (cs : Array Value) (u : World) (v : Value) : Prop := ∃ xb, v = .pointer (some ⟨xb, 0, none⟩) ∧ B ≤ xb ∧ BlkA T xb u cs
theorem NewB.later {B : Nat} {T : TypeId} {cs : Array Value} {u u' : World} {v : Value} (h : NewB B T cs u v) (hb : Below u.heap.size u u') : NewB B T cs u' v := by
  obtain ⟨xb, h1, h2, h3⟩ := h
  exact ⟨xb, h1, h2, h3.below hb⟩
theorem Wh.but {w w' : World} {neg : Bool} {a : Option Addr} {len cap : Nat} {ds : List Int} {n : Int} {xb : Nat} {T : TypeId} {m : Bool} {sa : Option Addr} {sl sc : Nat} (h : Wh w neg a len cap ds n) (hX : BlkA T xb w #[.bool m, .slice sa sl sc]) (hB : But xb w w') : Wh w' neg a len cap ds n := by
  have hat : At w' a ds := by
    rcases h.row.lies with e | ⟨b, off, e, hc⟩
    · exact .inl e
    · refine .inr ⟨b, off, e, fun k hk => ?_⟩
      have c0 := hc k hk
      have hlt := block_lt_of_cell c0
      have hne : b ≠ xb := fun e => by
        subst e
        unfold BlkA at hX
        simp only [World.cell?, hX] at c0
        match off + k, c0 with
        | 0, c0 => simp at c0
        | 1, c0 => simp at c0
        | i + 2, c0 => simp at c0
      have hbk : w'.heap[b]? = w.heap[b]? := hB.block b hlt hne
      rw [← c0]
      exact World.cell?_of_block (w := w) hbk
  exact ⟨⟨h.row.size, hat, h.row.none, h.row.room, h.row.short, h.row.dig⟩, h.norm, h.worth, h.sign⟩
theorem cell_but {xb : Nat} {w w' : World} {p : Addr} {v : Value} (hB : But xb w w') (hp : p.block ≠ xb) (h : w.cell? p = some v) : w'.cell? p = some v := by
  rw [← h]
  exact World.cell?_of_block (w := w) (hB.block p.block (block_lt_of_cell h) hp)
theorem sizWH : (Try.prog.info? 57).map (·.size) = some 2 := by kernel_rfl
theorem cmpI_zero (x y : Int) : (cmpI x y == 0) = decide (x = y) := by
  rcases Int.lt_trichotomy x y with k | k | k
  · rw [cmpI_lt k, decide_eq_false (by omega)]; rfl
  · rw [cmpI_eq k, decide_eq_true k]; rfl
  · rw [cmpI_gt k, decide_eq_false (by omega)]; rfl
set_option maxRecDepth 100000 in
set_option maxHeartbeats 16000000 in
theorem even_any (p : NA) (ra : Option Addr) (rc : Nat) (rs : List Int) (w : World) (hr : At w ra rs) (hR : InR rs) (hf : 0 ≤ p.f ∧ p.f < (rs.length : Int)) (ht : 0 ≤ p.t ∧ p.t < (rs.length : Int)) (hg : 1 ≤ p.g ∧ p.g ≤ 64) (hk : 1 ≤ p.k ∧ p.k ≤ 64) :
    Calls Try.prog 19 #[arV p, .slice ra rs.length rc] w fun e w' => e = .returned (.bool (decide (p.g * nth rs p.f.toNat = p.k * nth rs p.t.toNat))) ∧ Below w.heap.size w w' := by
  obtain ⟨f, t, g, k, s⟩ := p
  simp only at hf ht hg hk
  unfold arV
  simp only
  obtain ⟨f, rfl⟩ : ∃ i : Nat, f = (i : Int) := ⟨f.toNat, by omega⟩
  obtain ⟨t, rfl⟩ : ∃ i : Nat, t = (i : Int) := ⟨t.toNat, by omega⟩
  simp only [Int.toNat_natCast]
  rcases hr with e | ⟨rb, ro, er, hc⟩
  · rw [e] at hf; simp at hf; omega
  subst er
  have cr2' := hc f (by omega)
  have cr3' := hc t (by omega)
  have g1 := hR f
  have g2 := hR t
  have b0 := (Below.refl w.heap.size w).alloc (Nat.le_refl _) (.cells #[.int .i64 (f : Int), .int .i64 (t : Int), .int .i64 g, .int .i64 k, .int .i64 s] 46)
  have X0 := blkA_new 46 w #[.int .i64 (f : Int), .int .i64 (t : Int), .int .i64 g, .int .i64 k, .int .i64 s]
  have ca0 := X0.cell (k := 0) rfl
  have ca1 := X0.cell (k := 1) rfl
  have ca2 := X0.cell (k := 2) rfl
  have ca3 := X0.cell (k := 3) rfl
  simp only [List.getElem_toArray, List.getElem_cons_zero, List.getElem_cons_succ] at ca0 ca1 ca2 ca3
  have cr2 := cellN_later b0 cr2'
  have cr3 := cellN_later b0 cr3'
  have B0 := hiddenN b0
  have hwb := block_lt_of_cell ca0
  have hrb := block_lt_of_cell cr2
  simp only at hwb hrb
  have hfN : f < rs.length := by omega
  have htN : t < rs.length := by omega
  clear hf ht
  clear b0 X0 cr2' cr3' hc hR
  rw [← cmpI_zero]
  generalize nth rs f = x at *
  generalize nth rs t = y at *
  generalize rs.length = N at *
  have O1 : Hid (∀ W, Calls Try.prog 31 #[.int .i64 g] W (MadeWh W g 3)) := fun W => of_any g W (by omega)
  have O2 : Hid (∀ W, Calls Try.prog 31 #[.int .i64 x] W (MadeWh W x 3)) := fun W => of_any x W g1
  have O3 : Hid (∀ W, Calls Try.prog 31 #[.int .i64 k] W (MadeWh W k 3)) := fun W => of_any k W (by omega)
  have O4 : Hid (∀ W, Calls Try.prog 31 #[.int .i64 y] W (MadeWh W y 3)) := fun W => of_any y W g2
  go_enter Try.func19, Try.ntmps19
  go_upto_region 1 with fail
  generalize w.alloc (.cells #[.int .i64 (f : Int), .int .i64 (t : Int), .int .i64 g, .int .i64 k, .int .i64 s] 46) = W0 at *
  refine wp_region_said 11 (fun i u v => match i with
      | 0 => v = .pointer (some ⟨w.heap.size, 2, none⟩)
      | 1 => v = .int .i64 g
      | 2 => IsWh u g 3 v
      | 3 => v = .slice (some ⟨rb, ro, none⟩) N rc
      | 4 => v = .pointer (some ⟨w.heap.size, 0, none⟩)
      | 5 => v = .int .i64 (f : Int)
      | 6 => v = .pointer (some ⟨rb, ro + f, none⟩)
      | 7 => v = .int .i64 x
      | 8 => IsWh u x 3 v
      | 9 => IsWh u (g * x) 6 v
      | 10 => NewB W0.heap.size 57 #[.bool false, .slice none 0 0] u v
      | _ => True) (by kernel_rfl) (by kernel_rfl) (by kernel_rfl) (by kernel_rfl) ?_ ?_ ?_
  · intro i w v w' h hb
    match i, h with
    | 0, h => exact h
    | 1, h => exact h
    | 2, h => exact IsWh.later h hb
    | 3, h => exact h
    | 4, h => exact h
    | 5, h => exact h
    | 6, h => exact h
    | 7, h => exact h
    | 8, h => exact IsWh.later h hb
    | 9, h => exact IsWh.later h hb
    | 10, h => exact h.later hb
    | _ + 11, _ => trivial
  · intro i o ρ w' hi ho hb hc hf hfr hdep
    have kA := cellN_later hb ca2
    have kB := cellN_later hb ca0
    have kC := cellN_later hb cr2
    match i, hi with
    | 0, _ =>
      simp only [gTA, gCZ, gSI] at ho
      subst ho
      have ts : ρ (.tmp 2) = .pointer (some ⟨w.heap.size, 0, none⟩) := hfr 2 (by kernel_rfl)
      simp [go_sem, ts]
      exact ⟨Below.refl _ _, rfl⟩
    | 1, _ =>
      simp only [gTA, gCZ, gCS, gSI] at ho
      subst ho
      have ts : ρ (.tmp 7) = .pointer (some ⟨w.heap.size, 2, none⟩) := hdep 0 7 (by kernel_rfl) (by kernel_rfl)
      simp [go_sem, ts, kA]
      exact ⟨Below.refl _ _, rfl⟩
    | 2, _ =>
      simp only [gTA, gCZ, gCS, gSI] at ho
      subst ho
      have ts : ρ (.tmp 8) = .int .i64 g := hdep 1 8 (by kernel_rfl) (by kernel_rfl)
      simp [go_sem, ts, hf]
      exact ⟨rfl, of_said (O1.out _)⟩
    | 3, _ =>
      simp only [gTA, gCZ, gCS, gSI] at ho
      subst ho
      have ts : ρ (.tmp 1) = .slice (some ⟨rb, ro, none⟩) N rc := hfr 1 (by kernel_rfl)
      simp [go_sem, ts]
      exact ⟨Below.refl _ _, rfl⟩
    | 4, _ =>
      simp only [gTA, gCZ, gCS, gSI] at ho
      subst ho
      have ts : ρ (.tmp 2) = .pointer (some ⟨w.heap.size, 0, none⟩) := hfr 2 (by kernel_rfl)
      simp [go_sem, ts]
      exact ⟨Below.refl _ _, rfl⟩
    | 5, _ =>
      simp only [gTA, gCZ, gCS, gSI] at ho
      subst ho
      have ts : ρ (.tmp 11) = .pointer (some ⟨w.heap.size, 0, none⟩) := hdep 4 11 (by kernel_rfl) (by kernel_rfl)
      simp [go_sem, ts, kB]
      exact ⟨Below.refl _ _, rfl⟩
    | 6, _ =>
      simp only [gTA, gCZ, gCS, gSI] at ho
      subst ho
      have t0 : ρ (.tmp 10) = .slice (some ⟨rb, ro, none⟩) N rc := hdep 3 10 (by kernel_rfl) (by kernel_rfl)
      have t1 : ρ (.tmp 12) = .int .i64 (f : Int) := hdep 5 12 (by kernel_rfl) (by kernel_rfl)
      simp [go_sem, t0, t1, hfN]
      exact ⟨Below.refl _ _, rfl⟩
    | 7, _ =>
      simp only [gTA, gCZ, gCS, gSI] at ho
      subst ho
      have ts : ρ (.tmp 13) = .pointer (some ⟨rb, ro + f, none⟩) := hdep 6 13 (by kernel_rfl) (by kernel_rfl)
      simp [go_sem, ts, kC]
      exact ⟨Below.refl _ _, rfl⟩
    | 8, _ =>
      simp only [gTA, gCZ, gCS, gSI] at ho
      subst ho
      have ts : ρ (.tmp 14) = .int .i64 x := hdep 7 14 (by kernel_rfl) (by kernel_rfl)
      simp [go_sem, ts, hf]
      exact ⟨rfl, of_said (O2.out _)⟩
    | 9, _ =>
      simp only [gTA, gCZ, gCS, gSI] at ho
      subst ho
      obtain ⟨m0, a0, l0, p0, d0, e0, x0, y0⟩ : IsWh w' g 3 (ρ (.tmp 9)) := hdep 2 9 (by kernel_rfl) (by kernel_rfl)
      obtain ⟨m1, a1, l1, p1, d1, e1, x1, y1⟩ : IsWh w' x 3 (ρ (.tmp 15)) := hdep 8 15 (by kernel_rfl) (by kernel_rfl)
      simp [go_sem, e0, e1, hf]
      exact ⟨rfl, times_said ⟨m0, a0, l0, p0, d0, rfl, x0, y0⟩ ⟨m1, a1, l1, p1, d1, rfl, x1, y1⟩ (by decide)⟩
    | 10, _ =>
      simp only [gTA, gCZ, gCS, gSI] at ho
      subst ho
      simp [go_sem]
      exact ⟨(Below.refl _ _).alloc (Nat.le_refl _) _, w'.heap.size, rfl, hb.size, blkA_new 57 w' #[.bool false, .slice none 0 0]⟩
  · intro V W1 q9 hS
    have e0 : V 0 = .pointer (some ⟨w.heap.size, 2, none⟩) := hS 0 (by decide)
    have e1 : V 1 = .int .i64 g := hS 1 (by decide)
    obtain ⟨m2, a2, l2, p2, d2, e2, -, -⟩ : IsWh W1 g 3 (V 2) := hS 2 (by decide)
    have e3 : V 3 = .slice (some ⟨rb, ro, none⟩) N rc := hS 3 (by decide)
    have e4 : V 4 = .pointer (some ⟨w.heap.size, 0, none⟩) := hS 4 (by decide)
    have e5 : V 5 = .int .i64 (f : Int) := hS 5 (by decide)
    have e6 : V 6 = .pointer (some ⟨rb, ro + f, none⟩) := hS 6 (by decide)
    have e7 : V 7 = .int .i64 x := hS 7 (by decide)
    obtain ⟨m8, a8, l8, p8, d8, e8, -, -⟩ : IsWh W1 x 3 (V 8) := hS 8 (by decide)
    obtain ⟨m9, a9, l9, p9, d9, e9, xW, xL⟩ : IsWh W1 (g * x) 6 (V 9) := hS 9 (by decide)
    obtain ⟨xb, e10, xB, xX⟩ : NewB W0.heap.size 57 #[.bool false, .slice none 0 0] W1 (V 10) := hS 10 (by decide)
    simp only [List.drop_succ_cons, List.drop_zero, List.take_succ_cons, List.take_zero, puts, e0, e1, e2, e3, e4, e5, e6, e7, e8, e9, e10]
    clear hS e0 e1 e2 e3 e4 e5 e6 e7 e8 e9 e10 V
    simp only [Act.put, List.setIfInBounds_toArray, List.set_cons_zero, List.set_cons_succ]
    have B9 := hiddenN (B0.out.trans (q9.mono B0.out.size))
    have ca0' := cellN_later q9 ca0
    have ca1' := cellN_later q9 ca1
    have ca2' := cellN_later q9 ca2
    have ca3' := cellN_later q9 ca3
    have cr3' := cellN_later q9 cr3
    have WX := hiddenN xW
    have XX := hiddenN xX
    have hxw : W0.heap.size ≤ xb := xB
    clear xW xX xB ca0 ca1 ca2 ca3 cr2 cr3 q9
    go_wp2_with (refine wpList_storeW _ rfl 57 (.tmp 5) (.tmp 16) rfl rfl xb 57 _ _ rfl rfl XX.out sizWH rfl rfl ?_; intro w8 hN hU; have N8 := hiddenN hN; have U8 := hiddenN hU; clear hN hU)
    have caz1 := cell_but U8.out (by have := hwb; show w.heap.size ≠ xb; omega) ca1'
    have caz3 := cell_but U8.out (by have := hwb; show w.heap.size ≠ xb; omega) ca3'
    have crz3 := cell_but U8.out (by have := hrb; show rb ≠ xb; omega) cr3'
    have W8 := hiddenN (WX.out.but XX.out U8.out)
    have B8 := hiddenN (B9.out.trans (U8.out.below (show w.heap.size ≤ xb by omega) B9.out.size))
    have hx8 : xb < w8.heap.size := N8.out.lt
    clear ca0' ca1' ca2' ca3' cr3' WX XX U8 B9
    clear B0 O1 O2
    refine wp_region_said 11 (fun i u v => match i with
        | 0 => v = .pointer (some ⟨w.heap.size, 3, none⟩)
        | 1 => v = .int .i64 k
        | 2 => IsWh u k 3 v
        | 3 => v = .slice (some ⟨rb, ro, none⟩) N rc
        | 4 => v = .pointer (some ⟨w.heap.size, 1, none⟩)
        | 5 => v = .int .i64 (t : Int)
        | 6 => v = .pointer (some ⟨rb, ro + t, none⟩)
        | 7 => v = .int .i64 y
        | 8 => IsWh u y 3 v
        | 9 => IsWh u (k * y) 6 v
        | 10 => NewB w8.heap.size 57 #[.bool false, .slice none 0 0] u v
        | _ => True) (by kernel_rfl) (by kernel_rfl) (by kernel_rfl) (by kernel_rfl) ?_ ?_ ?_
    · intro i w v w' h hb
      match i, h with
      | 0, h => exact h
      | 1, h => exact h
      | 2, h => exact IsWh.later h hb
      | 3, h => exact h
      | 4, h => exact h
      | 5, h => exact h
      | 6, h => exact h
      | 7, h => exact h
      | 8, h => exact IsWh.later h hb
      | 9, h => exact IsWh.later h hb
      | 10, h => exact h.later hb
      | _ + 11, _ => trivial
    · intro i o ρ w' hi ho hb hc hf hfr hdep
      have kA := cellN_later hb caz3
      have kB := cellN_later hb caz1
      have kC := cellN_later hb crz3
      match i, hi with
      | 0, _ =>
        simp only [gTA, gCZ, gSI] at ho
        subst ho
        have ts : ρ (.tmp 2) = .pointer (some ⟨w.heap.size, 0, none⟩) := hfr 2 (by kernel_rfl)
        simp [go_sem, ts]
        exact ⟨Below.refl _ _, rfl⟩
      | 1, _ =>
        simp only [gTA, gCZ, gCS, gSI] at ho
        subst ho
        have ts : ρ (.tmp 17) = .pointer (some ⟨w.heap.size, 3, none⟩) := hdep 0 17 (by kernel_rfl) (by kernel_rfl)
        simp [go_sem, ts, kA]
        exact ⟨Below.refl _ _, rfl⟩
      | 2, _ =>
        simp only [gTA, gCZ, gCS, gSI] at ho
        subst ho
        have ts : ρ (.tmp 18) = .int .i64 k := hdep 1 18 (by kernel_rfl) (by kernel_rfl)
        simp [go_sem, ts, hf]
        exact ⟨rfl, of_said (O3.out _)⟩
      | 3, _ =>
        simp only [gTA, gCZ, gCS, gSI] at ho
        subst ho
        have ts : ρ (.tmp 1) = .slice (some ⟨rb, ro, none⟩) N rc := hfr 1 (by kernel_rfl)
        simp [go_sem, ts]
        exact ⟨Below.refl _ _, rfl⟩
      | 4, _ =>
        simp only [gTA, gCZ, gCS, gSI] at ho
        subst ho
        have ts : ρ (.tmp 2) = .pointer (some ⟨w.heap.size, 0, none⟩) := hfr 2 (by kernel_rfl)
        simp [go_sem, ts]
        exact ⟨Below.refl _ _, rfl⟩
      | 5, _ =>
        simp only [gTA, gCZ, gCS, gSI] at ho
        subst ho
        have ts : ρ (.tmp 21) = .pointer (some ⟨w.heap.size, 1, none⟩) := hdep 4 21 (by kernel_rfl) (by kernel_rfl)
        simp [go_sem, ts, kB]
        exact ⟨Below.refl _ _, rfl⟩
      | 6, _ =>
        simp only [gTA, gCZ, gCS, gSI] at ho
        subst ho
        have t0 : ρ (.tmp 20) = .slice (some ⟨rb, ro, none⟩) N rc := hdep 3 20 (by kernel_rfl) (by kernel_rfl)
        have t1 : ρ (.tmp 22) = .int .i64 (t : Int) := hdep 5 22 (by kernel_rfl) (by kernel_rfl)
        simp [go_sem, t0, t1, htN]
        exact ⟨Below.refl _ _, rfl⟩
      | 7, _ =>
        simp only [gTA, gCZ, gCS, gSI] at ho
        subst ho
        have ts : ρ (.tmp 23) = .pointer (some ⟨rb, ro + t, none⟩) := hdep 6 23 (by kernel_rfl) (by kernel_rfl)
        simp [go_sem, ts, kC]
        exact ⟨Below.refl _ _, rfl⟩
      | 8, _ =>
        simp only [gTA, gCZ, gCS, gSI] at ho
        subst ho
        have ts : ρ (.tmp 24) = .int .i64 y := hdep 7 24 (by kernel_rfl) (by kernel_rfl)
        simp [go_sem, ts, hf]
        exact ⟨rfl, of_said (O4.out _)⟩
      | 9, _ =>
        simp only [gTA, gCZ, gCS, gSI] at ho
        subst ho
        obtain ⟨m0, a0, l0, p0, d0, e0, x0, y0⟩ : IsWh w' k 3 (ρ (.tmp 19)) := hdep 2 19 (by kernel_rfl) (by kernel_rfl)
        obtain ⟨m1, a1, l1, p1, d1, e1, x1, y1⟩ : IsWh w' y 3 (ρ (.tmp 25)) := hdep 8 25 (by kernel_rfl) (by kernel_rfl)
        simp [go_sem, e0, e1, hf]
        exact ⟨rfl, times_said ⟨m0, a0, l0, p0, d0, rfl, x0, y0⟩ ⟨m1, a1, l1, p1, d1, rfl, x1, y1⟩ (by decide)⟩
      | 10, _ =>
        simp only [gTA, gCZ, gCS, gSI] at ho
        subst ho
        simp [go_sem]
        exact ⟨(Below.refl _ _).alloc (Nat.le_refl _) _, w'.heap.size, rfl, hb.size, blkA_new 57 w' #[.bool false, .slice none 0 0]⟩
    · intro V W3 q9 hS
      have e0 : V 0 = .pointer (some ⟨w.heap.size, 3, none⟩) := hS 0 (by decide)
      have e1 : V 1 = .int .i64 k := hS 1 (by decide)
      obtain ⟨m2, a2, l2, p2, d2, e2, -, -⟩ : IsWh W3 k 3 (V 2) := hS 2 (by decide)
      have e3 : V 3 = .slice (some ⟨rb, ro, none⟩) N rc := hS 3 (by decide)
      have e4 : V 4 = .pointer (some ⟨w.heap.size, 1, none⟩) := hS 4 (by decide)
      have e5 : V 5 = .int .i64 (t : Int) := hS 5 (by decide)
      have e6 : V 6 = .pointer (some ⟨rb, ro + t, none⟩) := hS 6 (by decide)
      have e7 : V 7 = .int .i64 y := hS 7 (by decide)
      obtain ⟨m8, a8, l8, p8, d8, e8, -, -⟩ : IsWh W3 y 3 (V 8) := hS 8 (by decide)
      obtain ⟨m9, a9, l9, p9, d9, e9, yW, yL⟩ : IsWh W3 (k * y) 6 (V 9) := hS 9 (by decide)
      obtain ⟨yb, e10, yB, yX⟩ : NewB w8.heap.size 57 #[.bool false, .slice none 0 0] W3 (V 10) := hS 10 (by decide)
      simp only [List.drop_succ_cons, List.drop_zero, List.take_succ_cons, List.take_zero, puts, e0, e1, e2, e3, e4, e5, e6, e7, e8, e9, e10]
      clear hS e0 e1 e2 e3 e4 e5 e6 e7 e8 e9 e10 V
      simp only [Act.put, List.setIfInBounds_toArray, List.set_cons_zero, List.set_cons_succ]
      have B5 := hiddenN (B8.out.trans (q9.mono B8.out.size))
      have W5 := hiddenN (W8.out.below q9)
      have N5 := hiddenN (N8.out.below q9)
      have WY := hiddenN yW
      have XY := hiddenN yX
      clear yW yX q9 caz1 caz3 crz3 W8 N8 B8
      go_upto_region 3 with (refine wpList_storeW _ rfl 57 (.tmp 6) (.tmp 26) rfl rfl yb 57 _ _ rfl rfl XY.out sizWH rfl rfl ?_; intro w7 hN hU; have N7 := hiddenN hN; have U7 := hiddenN hU; clear hN hU)
      have NX := hiddenN (N5.out.keep (U7.out.block xb N5.out.lt (by omega)))
      have WX := hiddenN (W5.out.but XY.out U7.out)
      have WZ := hiddenN (WY.out.but XY.out U7.out)
      have B7 := hiddenN (B5.out.trans (U7.out.below (show w.heap.size ≤ yb by omega) B5.out.size))
      clear B5 W5 N5 WY XY U7
      have x0 := NX.out.cell (k := 0) rfl
      have x1 := NX.out.cell (k := 1) rfl
      have y0 := N7.out.cell (k := 0) rfl
      have y1 := N7.out.cell (k := 1) rfl
      simp only [List.getElem_toArray, List.getElem_cons_zero, List.getElem_cons_succ] at x0 x1 y0 y1
      have CM := hiddenN (cmp_any _ _ _ _ _ _ _ _ _ _ _ _ w7 WX.out WZ.out)
      unfold ComparedWh at CM
      go_wp2_with (go_at_call 28; (with_reducible refine CM.out.mono ?_); rintro e V9 ⟨rfl, v9⟩; have M9 := hiddenN (B7.out.trans (v9.mono B7.out.size)); clear v9)
      go_ret
      exact ⟨rfl, M9.out⟩
theorem con_zero {n : NN} {L : List (Int × Bool)} (h : conW n L = 0) : checkN n = 0 ∧ cycW n.arcs L = true ∧ alW n.arcs L = false := by
  unfold conW at h
  split at h
  · rename_i h0
    split at h
    · rename_i h1
      split at h
      · exact absurd h (by decide)
      · rename_i h2
        exact ⟨h0, h1, by simpa using h2⟩
    · exact absurd h (by decide)
  · exact absurd h (by assumption)
def evW (A : List NA) (rs : List Int) (x : Int × Bool) : Bool := decide ((nthNa A x.1.toNat).g * nth rs (nthNa A x.1.toNat).f.toNat = (nthNa A x.1.toNat).k * nth rs (nthNa A x.1.toNat).t.toNat)
def evsW (A : List NA) (rs : List Int) (L : List (Int × Bool)) (k : Nat) : Bool := (List.range k).all fun i => evW A rs (nthT L i)
theorem evs_next (A : List NA) (rs : List Int) (L : List (Int × Bool)) (k : Nat) : evsW A rs L (k + 1) = (evsW A rs L k && evW A rs (nthT L k)) := by
  unfold evsW
  rw [List.range_succ, List.all_append]
  simp
theorem denies {n : NN} {L : List (Int × Bool)} (hc : conW n L = 0) (rs : List Int) (hl : n.nodes ≤ (rs.length : Int)) (hp : ∀ i, i < rs.length → 1 ≤ nth rs i) : evsW n.arcs rs L L.length = false := by
  obtain ⟨h0, h1, h2⟩ := con_zero hc
  have hS := check_sound h0
  rw [← Bool.not_eq_true]
  intro hall
  unfold evsW at hall
  have hall := all_range.1 hall
  have hev : ∀ x, x ∈ L → (nthNa n.arcs x.1.toNat).g * nth rs (nthNa n.arcs x.1.toNat).f.toNat = (nthNa n.arcs x.1.toNat).k * nth rs (nthNa n.arcs x.1.toNat).t.toNat := by
    intro x hx
    obtain ⟨i, hi, rfl⟩ := List.mem_iff_getElem.1 hx
    have := hall i hi
    rw [nthT_get hi] at this
    exact of_decide_eq_true this
  have hC := cyc_iff.1 h1
  have := al_even hC (fun v => (nth rs v.toNat).toNat) (fun x hx => by
    have q := (hS.taken (hC.named x hx)).2.2.1
    have := hp (stW n.arcs x).toNat (by omega)
    show 1 ≤ (nth rs (stW n.arcs x).toNat).toNat
    omega) (fun x hx => by
    have e := hev x hx
    obtain ⟨n1, n2⟩ := inW_iff.1 (hC.named x hx)
    have hs := hS.arcs x.1.toNat (by omega)
    have p1 := hp (nthNa n.arcs x.1.toNat).f.toNat (by have := hs.f; omega)
    have p2 := hp (nthNa n.arcs x.1.toNat).t.toNat (by have := hs.t; omega)
    have e' := (nat_mul_eq hs.g.1 p1 hs.k.1 p2).2 e
    show (tkW n.arcs x).g.toNat * (nth rs (stW n.arcs x).toNat).toNat = (tkW n.arcs x).k.toNat * (nth rs (enW n.arcs x).toNat).toNat
    unfold stW enW tkW
    split
    · exact e'.symm
    · exact e')
  rw [this] at h2
  cases h2
set_option maxRecDepth 100000 in
set_option maxHeartbeats 16000000 in
theorem witnessDenies_walk (n : NN) (a : Option Addr) (c : Nat) (la : Option Addr) (len lc : Nat) (L : List (Int × Bool)) (ra : Option Addr) (rlen rc : Nat) (rs : List Int) (w : World) (h : ArgN w a c n) (hL : ArgT w la len lc L) (hr : Arg w ra rlen rc rs) : Calls Try.prog 5 #[.agg #[.int .i64 n.nodes, .slice a n.arcs.length c], .slice la len lc, .slice ra rlen rc] w fun e w' => e = .returned (.bool true) ∧ Below w.heap.size w w' := by
  have hroom : n.arcs.length ≤ 4611686018427387904 := by have := h.room; omega
  have hLr : L.length ≤ 4611686018427387904 := by have := hL.room; omega
  have hRr : rs.length ≤ 4611686018427387904 := by have := hr.reach; have := hr.size; omega
  have AW : Hid (∀ U, Calls Try.prog 14 #[] U fun e w' => e = .returned (.bool true) ∧ Below U.heap.size U w') := fun U => awakeW U
  have b0 := (Below.refl w.heap.size w).alloc (Nat.le_refl _) (.cells #[.int .i64 n.nodes, .slice a n.arcs.length c] 24)
  have X0 := hiddenN (blkA_new 24 w #[.int .i64 n.nodes, .slice a n.arcs.length c])
  have B0 := hiddenN b0
  have HA := hiddenN (h.lies.below b0)
  have HL := hiddenN (hL.lies.below b0)
  have HR := hiddenN (hr.lies.below b0)
  have IR := hiddenN hr.fits
  have CO := hiddenN (confirm_any n a c L la lc _ (h.lies.below b0) hroom (hL.lies.below b0) hLr hL.cap)
  have DN := hiddenN (fun (hc : conW n L = 0) hl hp => denies hc rs hl hp)
  have CZ := hiddenN (fun (hc : conW n L = 0) => con_zero hc)
  rw [← hL.len, ← hr.size]
  have y0 := X0.out.cell (k := 0) rfl
  have y1 := X0.out.cell (k := 1) rfl
  simp only [List.getElem_toArray, List.getElem_cons_zero, List.getElem_cons_succ] at y0 y1
  clear b0 h hL hr
  obtain ⟨N, hLN⟩ : ∃ N, L.length = N := ⟨_, rfl⟩
  have HLN := hiddenN hLN
  obtain ⟨R, hRN⟩ : ∃ R, rs.length = R := ⟨_, rfl⟩
  have HRN := hiddenN hRN
  rw [hLN] at CO DN hLr ⊢
  rw [hRN] at DN hRr ⊢
  clear hLN hRN
  go_enter Try.func5, Try.ntmps5
  go_upto_region 1 with fail
  generalize w.alloc (.cells #[.int .i64 n.nodes, .slice a n.arcs.length c] 24) = W0 at *
  by_cases hc : conW n L = 0
  case neg =>
    have hne : (conW n L != 0) = true := by simpa using hc
    generalize conW n L = E at *
    go_wp2_with (first
      | (go_at_call 16; (with_reducible refine CO.out.mono ?_); rintro e V1 ⟨rfl, b1⟩; have L1 := hiddenN (B0.out.trans (b1.mono B0.out.size)); clear b1)
      | (go_at_call 14; (with_reducible refine (AW.out _).mono ?_); rintro e V9 ⟨rfl, v9⟩; have M9 := hiddenN (L1.out.trans (v9.mono L1.out.size)); clear v9))
    go_ret
    exact ⟨rfl, M9.out⟩
  have DN1 := hiddenN (DN.out hc)
  have CZ1 := CZ.out hc
  have hS := check_sound CZ1.1
  have NMD := hiddenN (cyc_iff.1 CZ1.2.1).named
  have SN := hiddenN hS
  rw [hc] at CO
  clear DN CZ CZ1 hS hc
  by_cases hshort : (R : Int) < n.nodes
  · go_wp2_with (first
      | (go_at_call 16; (with_reducible refine CO.out.mono ?_); rintro e V1 ⟨rfl, b1⟩; have L1 := hiddenN (B0.out.trans (b1.mono B0.out.size)); have X1 := hiddenN (X0.out.below b1); clear b1 y0 y1; have y0 := X1.out.cell (k := 0) rfl; simp only [List.getElem_toArray, List.getElem_cons_zero] at y0)
      | (go_at_call 14; (with_reducible refine (AW.out _).mono ?_); rintro e V9 ⟨rfl, v9⟩; have M9 := hiddenN (L1.out.trans (v9.mono L1.out.size)); clear v9))
    go_ret
    exact ⟨rfl, M9.out⟩
  have hnR : n.nodes ≤ (R : Int) := by omega
  go_upto_region 3 with (go_at_call 16; (with_reducible refine CO.out.mono ?_); rintro e V1 ⟨rfl, b1⟩; have C1 := hiddenN b1; have L1 := hiddenN (B0.out.trans (b1.mono B0.out.size)); have X1 := hiddenN (X0.out.below b1); clear b1 y0 y1; have y0 := X1.out.cell (k := 0) rfl; simp only [List.getElem_toArray, List.getElem_cons_zero] at y0)
  clear CO hshort
  go_wp2
  go_loopg [7] R (fun gk v wr => ∃ k : Nat, k ≤ R ∧ gk = R - k ∧ v = .int .i64 (k : Int) ∧ Below V1.heap.size V1 wr ∧ ∀ i, i < k → 1 ≤ nth rs i)
  case atStart => exact ⟨0, Nat.zero_le _, rfl, rfl, Below.refl _ _, fun i hi => absurd hi (Nat.not_lt_zero _)⟩
  case round =>
    obtain ⟨k, hkR, rfl, rfl, hBr, hI⟩ := hrel
    have BR := hiddenN hBr
    have HI := hiddenN hI
    clear hBr hI
    have CR := hiddenN (C1.out.trans (BR.out.mono C1.out.size))
    have LR := hiddenN (L1.out.trans (BR.out.mono L1.out.size))
    by_cases hlt : k < R
    · have hki : (k : Int) < (R : Int) := by omega
      have HT := HRN.out
      rcases HR.out.below CR.out with e | ⟨rb, ro, er, hcr⟩
      · rw [e] at HT; simp at HT; omega
      have c0 := hcr k (by omega)
      subst er
      clear hcr HT
      generalize hx : nth rs k = x at c0
      have HX := hiddenN hx
      clear hx
      by_cases h1 : x < 1
      · go_wp2_with (go_at_call 14; (with_reducible refine (AW.out _).mono ?_); rintro e V9 ⟨rfl, v9⟩; have M9 := hiddenN (LR.out.trans (v9.mono LR.out.size)); clear v9)
        go_ret
        exact ⟨rfl, M9.out⟩
      · go_wp2
        go_roundg (R - (k + 1))
        case measure => omega
        case rel =>
          refine ⟨k + 1, by omega, rfl, by go_num, BR.out, fun i hi => ?_⟩
          by_cases e : i = k
          · rw [e, HX.out]; omega
          · exact HI.out i (by omega)
    have ek : R = k := by omega
    subst ek
    have hki : ¬ (R : Int) < (R : Int) := by omega
    have DF := hiddenN (DN1.out hnR HI.out)
    clear DN1
    go_wp2
    go_loopg [8, 9] N (fun gk u8 u9 wz => ∃ q : Nat, q ≤ N ∧ gk = N - q ∧ u8 = .bool (evsW n.arcs rs L q) ∧ u9 = .int .i64 (q : Int) ∧ Below W0.heap.size W0 wz)
    case atStart => exact ⟨0, Nat.zero_le _, rfl, rfl, rfl, CR.out⟩
    case round =>
      obtain ⟨q, hqN, rfl, rfl, rfl, hBz⟩ := hrel
      have BZ := hiddenN hBz
      have LZ := hiddenN (B0.out.trans (hBz.mono B0.out.size))
      clear hBz
      by_cases hqlt : q < N
      · have hqi : (q : Int) < (N : Int) := by omega
        have hqL : q < L.length := by rw [HLN.out]; exact hqlt
        obtain ⟨lb, lo, el, c0, c1⟩ : ∃ lb lo, la = some ⟨lb, lo, none⟩ ∧ wr.cell? ⟨lb, lo + q * 2, none⟩ = some (.int .i64 (nthT L q).1) ∧ wr.cell? ⟨lb, lo + q * 2 + 1, none⟩ = some (.bool (nthT L q).2) := by
          rcases HL.out.below BZ.out with e | ⟨lb, lo, el, hcl⟩
          · have := HLN.out; rw [e] at this; simp at this; omega
          · exact ⟨lb, lo, el, hcl q hqL⟩
        have hin := inW_iff.1 (NMD.out (nthT L q) (by rw [nthT_get hqL]; exact List.getElem_mem _))
        have EN := hiddenN (evs_next n.arcs rs L q)
        obtain ⟨xx, hxx⟩ : ∃ x, nthT L q = x := ⟨_, rfl⟩
        rw [hxx] at c0 c1 EN hin
        clear hxx
        obtain ⟨z, b⟩ := xx
        simp only at c0 c1 hin
        obtain ⟨j, rfl⟩ : ∃ j : Nat, z = (j : Int) := ⟨z.toNat, by omega⟩
        have hjA : j < n.arcs.length := by omega
        have hj0 : ¬ (j : Int) < 0 := by omega
        have hj1 : ¬ (n.arcs.length : Int) ≤ (j : Int) := by omega
        clear hin
        have SA := SN.out.arcs j hjA
        have hsN := SN.out.nodes
        have EVA := hiddenN (fun U (hU : Below W0.heap.size W0 U) => even_any (nthNa n.arcs j) ra rc rs U (HR.out.below hU) IR.out (by rw [HRN.out]; have := SA.f; omega) (by rw [HRN.out]; have := SA.t; omega) SA.g SA.k)
        rw [HRN.out] at EVA
        have EVW : Hid (evW n.arcs rs ((j : Int), b) = decide ((nthNa n.arcs j).g * nth rs (nthNa n.arcs j).f.toNat = (nthNa n.arcs j).k * nth rs (nthNa n.arcs j).t.toNat)) := rfl
        rw [← EVW.out] at EVA
        generalize evW n.arcs rs ((j : Int), b) = ev at *
        obtain ⟨ab, ao, ea, -, hca⟩ := arcs_at (HA.out.below BZ.out) j hjA
        obtain ⟨a0, a1, a2, a3, a4⟩ := hca j hjA
        unfold arV at EVA
        clear EVW SA hca
        generalize nthNa n.arcs j = PP at *
        obtain ⟨af, at_, ag, ak, az⟩ := PP
        simp only at a0 a1 a2 a3 a4 EVA
        subst el
        subst ea
        have XZ := hiddenN (X0.out.below BZ.out)
        have y1 := XZ.out.cell (k := 1) rfl
        simp only [List.getElem_toArray, List.getElem_cons_zero, List.getElem_cons_succ] at y1
        go_upto_region 12 with fail
        go_quiet (fail)
        have B2 := hiddenN (BZ.out.trans ((drewF wr nq).mono BZ.out.size))
        have y1' := cellN_later (drewF wr nq) y1
        have c0' := cellN_later (drewF wr nq) c0
        have a0' := cellN_later (drewF wr nq) a0
        have a1' := cellN_later (drewF wr nq) a1
        have a2' := cellN_later (drewF wr nq) a2
        have a3' := cellN_later (drewF wr nq) a3
        have a4' := cellN_later (drewF wr nq) a4
        clear y1 c0 c1 a0 a1 a2 a3 a4 XZ
        generalize wr.drewN nq = V2 at *
        have y1 := y1'
        have c0 := c0'
        have a0 := a0'
        have a1 := a1'
        have a2 := a2'
        have a3 := a3'
        have a4 := a4'
        clear y1' c0' a0' a1' a2' a3' a4'
        go_upto_region 14 with fail
        have EV := hiddenN (fun U (hU : Below V2.heap.size V2 U) => EVA.out U (B2.out.trans (hU.mono B2.out.size)))
        clear EVA
        refine wp_region_gen [] (fun d_ i u_ z_ => match i with
            | 0 => z_ = .pointer (some ⟨w.heap.size, 1, none⟩)
            | 1 => z_ = .slice (some ⟨ab, ao, none⟩) n.arcs.length c
            | 2 => z_ = .slice (some ⟨lb, lo, none⟩) N lc
            | 3 => z_ = .int .i64 (q : Int)
            | 4 => z_ = .pointer (some ⟨lb, lo + q * 2, none⟩)
            | 5 => z_ = .pointer (some ⟨lb, lo + q * 2, none⟩)
            | 6 => z_ = .int .i64 (j : Int)
            | 7 => z_ = .pointer (some ⟨ab, ao + j * 5, none⟩)
            | 8 => z_ = .agg #[.int .i64 af, .int .i64 at_, .int .i64 ag, .int .i64 ak, .int .i64 az]
            | 9 => z_ = .slice ra R rc
            | 10 => z_ = .bool ev
            | 11 => z_ = .bool ev
            | _ => True) (fun d_ u_ => Below V2.heap.size V2 u_) (by kernel_rfl) (by kernel_rfl) (by kernel_rfl) ?_ ?_ ?_ ?_ ?_ ?_ (by kernel_rfl)
        · intro d_ i w_ v_ w' h hb
          match i, h with
          | 0, h => exact h
          | 1, h => exact h
          | 2, h => exact h
          | 3, h => exact h
          | 4, h => exact h
          | 5, h => exact h
          | 6, h => exact h
          | 7, h => exact h
          | 8, h => exact h
          | 9, h => exact h
          | 10, h => exact h
          | 11, h => exact h
          | _ + 12, _ => trivial
        · intro d_ u_ u' h hb
          exact h.trans (hb.mono h.size)
        · exact Below.refl _ _
        · intro d_ i o ρ w' hm ho hf hg hC hcs hfs hfr hdep
          match i, hm, ho, hf, hg, hfr, hdep with
          | 0, _, ho, hf, hg, hfr, hdep =>
            simp only [gTA, gCZ, gSI] at ho
            subst ho
            refine ⟨fun _ => ?_, fun hw => absurd (show true = false from hw) (by decide)⟩
            have ts : ρ (.tmp 3) = .pointer (some ⟨w.heap.size, 0, none⟩) := hfr 3 (by kernel_rfl)
            simp [go_sem, ts]
            exact ⟨Below.refl _ _, rfl⟩
          | 1, _, ho, hf, hg, hfr, hdep =>
            simp only [gTA, gCZ, gCS, gSI] at ho
            subst ho
            refine ⟨fun _ => ?_, fun hw => absurd (show true = false from hw) (by decide)⟩
            have k1 := cellN_later hC y1
            have d0 : ρ (.tmp 58) = .pointer (some ⟨w.heap.size, 1, none⟩) := hdep 0 58 (by kernel_rfl) (by kernel_rfl)
            simp [go_sem, d0, k1]
            exact ⟨Below.refl _ _, rfl⟩
          | 2, _, ho, hf, hg, hfr, hdep =>
            simp only [gTA, gCZ, gCS, gSI] at ho
            subst ho
            refine ⟨fun _ => ?_, fun hw => absurd (show true = false from hw) (by decide)⟩
            have ts : ρ (.tmp 1) = .slice (some ⟨lb, lo, none⟩) N lc := hfr 1 (by kernel_rfl)
            simp [go_sem, ts]
            exact ⟨Below.refl _ _, rfl⟩
          | 3, _, ho, hf, hg, hfr, hdep =>
            simp only [gTA, gCZ, gCS, gSI] at ho
            subst ho
            refine ⟨fun _ => ?_, fun hw => absurd (show true = false from hw) (by decide)⟩
            have ts : ρ (.tmp 9) = .int .i64 (q : Int) := hfr 9 (by kernel_rfl)
            simp [go_sem, ts]
            exact ⟨Below.refl _ _, rfl⟩
          | 4, _, ho, hf, hg, hfr, hdep =>
            simp only [gTA, gCZ, gCS, gSI] at ho
            subst ho
            refine ⟨fun _ => ?_, fun hw => absurd (show true = false from hw) (by decide)⟩
            have d0 : ρ (.tmp 60) = .slice (some ⟨lb, lo, none⟩) N lc := hdep 2 60 (by kernel_rfl) (by kernel_rfl)
            have d1 : ρ (.tmp 61) = .int .i64 (q : Int) := hdep 3 61 (by kernel_rfl) (by kernel_rfl)
            simp [go_sem, d0, d1, hqlt]
            exact ⟨Below.refl _ _, rfl⟩
          | 5, _, ho, hf, hg, hfr, hdep =>
            simp only [gTA, gCZ, gCS, gSI] at ho
            subst ho
            refine ⟨fun _ => ?_, fun hw => absurd (show true = false from hw) (by decide)⟩
            have d0 : ρ (.tmp 62) = .pointer (some ⟨lb, lo + q * 2, none⟩) := hdep 4 62 (by kernel_rfl) (by kernel_rfl)
            simp [go_sem, d0]
            exact ⟨Below.refl _ _, rfl⟩
          | 6, _, ho, hf, hg, hfr, hdep =>
            simp only [gTA, gCZ, gCS, gSI] at ho
            subst ho
            refine ⟨fun _ => ?_, fun hw => absurd (show true = false from hw) (by decide)⟩
            have k0 := cellN_later hC c0
            have d0 : ρ (.tmp 63) = .pointer (some ⟨lb, lo + q * 2, none⟩) := hdep 5 63 (by kernel_rfl) (by kernel_rfl)
            simp [go_sem, d0, k0]
            exact ⟨Below.refl _ _, rfl⟩
          | 7, _, ho, hf, hg, hfr, hdep =>
            simp only [gTA, gCZ, gCS, gSI] at ho
            subst ho
            refine ⟨fun _ => ?_, fun hw => absurd (show true = false from hw) (by decide)⟩
            have d0 : ρ (.tmp 59) = .slice (some ⟨ab, ao, none⟩) n.arcs.length c := hdep 1 59 (by kernel_rfl) (by kernel_rfl)
            have d1 : ρ (.tmp 64) = .int .i64 (j : Int) := hdep 6 64 (by kernel_rfl) (by kernel_rfl)
            simp [go_sem, d0, d1, hjA]
            exact ⟨Below.refl _ _, rfl⟩
          | 8, _, ho, hf, hg, hfr, hdep =>
            simp only [gTA, gCZ, gCS, gSI] at ho
            subst ho
            refine ⟨fun _ => ?_, fun hw => absurd (show true = false from hw) (by decide)⟩
            have k0 := cellN_later hC a0
            have k1 := cellN_later hC a1
            have k2 := cellN_later hC a2
            have k3 := cellN_later hC a3
            have k4 := cellN_later hC a4
            have d0 : ρ (.tmp 65) = .pointer (some ⟨ab, ao + j * 5, none⟩) := hdep 7 65 (by kernel_rfl) (by kernel_rfl)
            simp [go_sem, d0, k0, k1, k2, k3, k4]
            exact ⟨Below.refl _ _, rfl⟩
          | 9, _, ho, hf, hg, hfr, hdep =>
            simp only [gTA, gCZ, gCS, gSI] at ho
            subst ho
            refine ⟨fun _ => ?_, fun hw => absurd (show true = false from hw) (by decide)⟩
            have ts : ρ (.tmp 2) = .slice ra R rc := hfr 2 (by kernel_rfl)
            simp [go_sem, ts]
            exact ⟨Below.refl _ _, rfl⟩
          | 10, _, ho, hf, hg, hfr, hdep =>
            simp only [gTA, gCZ, gCS, gSI] at ho
            subst ho
            refine ⟨fun _ => ?_, fun hw => absurd (show true = false from hw) (by decide)⟩
            have t0 : ρ (.tmp 66) = .agg #[.int .i64 af, .int .i64 at_, .int .i64 ag, .int .i64 ak, .int .i64 az] := hdep 8 66 (by kernel_rfl) (by kernel_rfl)
            have t1 : ρ (.tmp 67) = .slice ra R rc := hdep 9 67 (by kernel_rfl) (by kernel_rfl)
            simp [go_sem, t0, t1, hfs]
            exact ⟨rfl, (EV.out w' hC).mono fun e' w'' hh => ⟨_, hh.1, hh.2, rfl⟩⟩
          | 11, _, ho, hf, hg, hfr, hdep =>
            simp only [gTA, gCZ, gCS, gSI] at ho
            subst ho
            refine ⟨fun _ => ?_, fun hw => absurd (show true = false from hw) (by decide)⟩
            have d0 : ρ (.tmp 68) = .bool ev := hdep 10 68 (by kernel_rfl) (by kernel_rfl)
            simp [go_sem, d0]
            exact ⟨Below.refl _ _, rfl⟩
          | n + 12, _, ho, _, _, _, _ => simp at ho
        · intro d_ i o ρ w' hm ho h0 hf hg hC hcs hfs hfr hdep
          exact absurd hm (by simp)
        · intro U4 V4 hC4 hS
          have e0 : U4 0 = .pointer (some ⟨w.heap.size, 1, none⟩) := hS 0 (by decide) (by intro h; cases h)
          have e1 : U4 1 = .slice (some ⟨ab, ao, none⟩) n.arcs.length c := hS 1 (by decide) (by intro h; cases h)
          have e2 : U4 2 = .slice (some ⟨lb, lo, none⟩) N lc := hS 2 (by decide) (by intro h; cases h)
          have e3 : U4 3 = .int .i64 (q : Int) := hS 3 (by decide) (by intro h; cases h)
          have e4 : U4 4 = .pointer (some ⟨lb, lo + q * 2, none⟩) := hS 4 (by decide) (by intro h; cases h)
          have e5 : U4 5 = .pointer (some ⟨lb, lo + q * 2, none⟩) := hS 5 (by decide) (by intro h; cases h)
          have e6 : U4 6 = .int .i64 (j : Int) := hS 6 (by decide) (by intro h; cases h)
          have e7 : U4 7 = .pointer (some ⟨ab, ao + j * 5, none⟩) := hS 7 (by decide) (by intro h; cases h)
          have e8 : U4 8 = .agg #[.int .i64 af, .int .i64 at_, .int .i64 ag, .int .i64 ak, .int .i64 az] := hS 8 (by decide) (by intro h; cases h)
          have e9 : U4 9 = .slice ra R rc := hS 9 (by decide) (by intro h; cases h)
          have e10 : U4 10 = .bool ev := hS 10 (by decide) (by intro h; cases h)
          have e11 : U4 11 = .bool ev := hS 11 (by decide) (by intro h; cases h)
          simp only [puts, e0, e1, e2, e3, e4, e5, e6, e7, e8, e9, e10, e11]
          simp only [Act.put, List.setIfInBounds_toArray, List.set_cons_zero, List.set_cons_succ]
          clear hS e0 e1 e2 e3 e4 e5 e6 e7 e8 e9 e10 e11
          have B4 := hiddenN (B2.out.trans (hC4.mono B2.out.size))
          clear EV y1 c0 a0 a1 a2 a3 a4
          cases hev : evsW n.arcs rs L q with
          | true =>
            rw [hev] at EN
            go_wp2
            go_roundg (N - (q + 1))
            case measure => omega
            case rel => exact ⟨q + 1, by omega, rfl, by rw [EN.out]; simp, by go_num, B4.out⟩
          | false =>
            rw [hev] at EN
            go_wp2
            go_roundg (N - (q + 1))
            case measure => omega
            case rel => exact ⟨q + 1, by omega, rfl, by rw [EN.out]; simp, by go_num, B4.out⟩
      · have eq' : q = N := by omega
        subst eq'
        have hqi : ¬ (q : Int) < (q : Int) := by omega
        rw [DF.out]
        go_wp2_with (go_at_call 14; (with_reducible refine (AW.out _).mono ?_); rintro e V9 ⟨rfl, v9⟩; have M9 := hiddenN (LZ.out.trans (v9.mono LZ.out.size)); clear v9)
        go_ret
        exact ⟨rfl, M9.out⟩
end Go.Proofs.Ytdifaobfomfieaa

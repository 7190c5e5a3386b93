/- Texts of one chain, laid one behind the other. -/
import Derived.Test.YtecmkienoofccaaPartBalanceSolves21
import Derived.Test.YtecmkienoofccaaPartBalanceSolves20
namespace Go.Proofs.Ytecmkienoofccaa
open Go.ChangeShapes Go.WideShapes Go.ChangeAt Go.RowKit
/-- A new box: as it was made, then as it was filled. -/
def BoxF (B : Nat) (T : TypeId) (z0 vals : Array Value) (done : Bool) (u : World) (z : Value) : Prop := ∃ xb, z = .pointer (some ⟨xb, 0, none⟩) ∧ B ≤ xb ∧ BlkA T xb u (if done then vals else z0)
theorem BoxF.later {B : Nat} {T : TypeId} {z0 vals : Array Value} {done : Bool} {u u' : World} {z : Value} (h : BoxF B T z0 vals done u z) (hb : Below u.heap.size u u') : BoxF B T z0 vals done u' z := by
  obtain ⟨xb, h1, h2, h3⟩ := h
  exact ⟨xb, h1, h2, h3.below hb⟩
/-- How search ends. -/
def SeaE (w : World) (r : Option (List (Nat × Bool))) (e : Ending) (w' : World) : Prop := ∃ d c, e = .returned (.tuple #[.slice d (r.getD []).length c, .bool r.isSome]) ∧ CapS w.heap.size w' d c (r.getD []) ∧ Below w.heap.size w w'
def SeV (B : Nat) (r : Option (List (Nat × Bool))) (u : World) (z : Value) : Prop := ∃ d c, z = .tuple #[.slice d (r.getD []).length c, .bool r.isSome] ∧ CapS B u d c (r.getD [])
def SlS (B : Nat) (P : List (Nat × Bool)) (u : World) (z : Value) : Prop := ∃ d c, z = .slice d P.length c ∧ CapS B u d c P
def ElS (j : Nat) (b : Bool) (u : World) (z : Value) : Prop := ∃ g, z = .slice (some ⟨g, 0, none⟩) 1 1 ∧ u.cell? ⟨g, 0, none⟩ = some (.int .i64 (j : Int)) ∧ u.cell? ⟨g, 1, none⟩ = some (.bool b)
theorem SeV.later {B : Nat} {r : Option (List (Nat × Bool))} {u u' : World} {z : Value} (h : SeV B r u z) (hb : Below u.heap.size u u') : SeV B r u' z := by
  obtain ⟨d, c, h1, h2⟩ := h
  exact ⟨d, c, h1, h2.later hb⟩
theorem SlS.later {B : Nat} {P : List (Nat × Bool)} {u u' : World} {z : Value} (h : SlS B P u z) (hb : Below u.heap.size u u') : SlS B P u' z := by
  obtain ⟨d, c, h1, h2⟩ := h
  exact ⟨d, c, h1, h2.later hb⟩
theorem ElS.later {j : Nat} {b : Bool} {u u' : World} {z : Value} (h : ElS j b u z) (hb : Below u.heap.size u u') : ElS j b u' z := by
  obtain ⟨g, h1, h2, h3⟩ := h
  exact ⟨g, h1, cellN_later hb h2, cellN_later hb h3⟩
theorem seV_of {w w' : World} {r : Option (List (Nat × Bool))} {B : Nat} {e : Ending} (h : SeaE w r e w') (hB : B ≤ w.heap.size) : ∃ v, e = .returned v ∧ Below w.heap.size w w' ∧ SeV B r w' v := by
  obtain ⟨d, c, h1, h2, h3⟩ := h
  exact ⟨_, h1, h3, d, c, rfl, h2.mono hB⟩
theorem step_appS0 {w : World} {o : Oper} {ρ : Operand → Value} (s x : Operand) (ho : o.op = .call { callee := .builtin .append, args := #[s, x], argTypes := #[35, 35] }) {B j : Nat} {b : Bool} (hs : ρ s = .slice none 0 0) (hx : ElS j b w (ρ x)) (hB : B ≤ w.heap.size) : stepUpon Try.prog w (SlS B [(j, b)]) ((execOp ρ o).run Try.prog w) := by
  obtain ⟨g, hx, h0, h1⟩ := hx
  obtain ⟨i1, hi1, hy0, hy1, hy2⟩ := info_parts Try.infoStep
  obtain ⟨v', w', hr, h2, h3⟩ := run_append_told (P := Try.prog) w w.heap.size 35 o.type 46 i1 _ 2 16 Try.underlying35 hi1 hy0 hy1 hy2 rfl (by decide) (.slice none 0 0) 0 [] (World.ownsRow_nil _ _ _ _) ⟨g, 0, none⟩ 1 1 (by decide) [.int .i64 (j : Int), .bool b] rfl (fun k u hu => by
    match k, hu with
    | 0, hu => simp at hu; subst hu; simpa [Addr.add] using h0
    | 1, hu => simp at hu; subst hu; simpa [Addr.add] using h1) (fun u hu => by simp at hu; rcases hu with rfl | rfl <;> rfl) (by unfold maxLen; omega) (by omega) (Nat.le_refl _)
  unfold execOp
  simp only [ho, resolve, invoke, builtin, Sem.run_bind, Sem.run_pure, Result.andThen_ok, List.map_toArray, List.map_cons, List.map_nil, hs, hx, hr]
  rcases h3 with ⟨g1, cap, e1, -, -⟩ | ⟨cap, rfl, hg⟩
  · cases e1
  · refine ⟨(Below.refl _ _).grown hg (Nat.le_refl _) (fun k h => by cases h), some ⟨w.heap.size, 0, none⟩, cap, rfl, ?_⟩
    exact CapS.mono (B := w.heap.size) h2 hB
set_option maxRecDepth 100000 in
set_option maxHeartbeats 32000000 in
theorem search_any {A : List NA} {T : List Nat} {e : Nat} {aa ta : Option Addr} {ac tc : Nat} (m : Int) (hT : ∀ j, j ∈ T → j < A.length ∧ (nthNa A j).f = (fN A j : Int) ∧ (nthNa A j).t = (tN A j : Int)) (hTl : T.length ≤ 1000) :
    ∀ (k v : Nat) (came : Option Nat) (w : World), DeepF A T k v came → AtN w aa A → At w ta (intsF T) → k ≤ 1000 →
    Calls Try.prog 44 #[.agg #[.int .i64 m, .slice aa A.length ac], .slice ta T.length tc, .int .i64 (v : Int), .int .i64 (e : Int), .int .i64 (cmI came)] w (SeaE w (dfsF A T e k v came)) := by
  intro k
  induction k with
  | zero => intro v came w hD; exact absurd hD.pos (Nat.lt_irrefl _)
  | succ k ih =>
    intro v came w hD hA hTa hl
    have IH := hiddenN ih
    have HD := hiddenN hD
    have HA := hiddenN (arcs_at hA)
    have HAN := hiddenN hA
    have HTI := hiddenN hTa
    have HTA := hiddenN (intsF_at hTa)
    have HT := hiddenN hT
    have PL : Hid (∀ P, dfsF A T e (k + 1) v came = some P → P.length < k + 1) := fun P hP => hD P e (dfsF_sound hP).1 (dfsF_sound hP).2
    have b0 := (Below.refl w.heap.size w).alloc (Nat.le_refl _) (.cells #[.int .i64 m, .slice aa A.length ac] 24)
    have X0 := hiddenN (blkA_new 24 w #[.int .i64 m, .slice aa A.length ac])
    have B0 := hiddenN b0
    clear ih hD hT hA hTa b0
    by_cases hv : v = e
    · have DE : Hid (dfsF A T e (k + 1) v came = some []) := by show _ = _; rw [dfsF, if_pos hv]
      rw [DE.out]
      subst hv
      go_enter Try.func44, Try.ntmps44
      go_wp2
      go_ret2
      exact ⟨none, 0, rfl, CapS.nil _ _, B0.out⟩
    · have DE : Hid (dfsF A T e (k + 1) v came = tryF A (fun x j => dfsF A T e k x (some j)) v came T) := by show _ = _; rw [dfsF, if_neg hv]
      rw [DE.out] at PL ⊢
      clear DE
      have hvi : ¬ (v : Int) = (e : Int) := by omega
      obtain ⟨RE, hRE⟩ : ∃ R, SeaE w (tryF A (fun x j => dfsF A T e k x (some j)) v came T) = R := ⟨_, rfl⟩
      rw [hRE]
      have HRE := hiddenN hRE
      clear hRE
      obtain ⟨cm, hcm⟩ : ∃ q, cmI came = q := ⟨_, rfl⟩
      rw [hcm]
      have CM : Hid (∀ j : Nat, cm = (j : Int) ↔ came = some j) := fun j => by rw [← hcm]; exact cmI_some
      clear hcm
      go_enter Try.func44, Try.ntmps44
      go_upto_region 1 with fail
      obtain ⟨nb, hnb⟩ : ∃ q, w.heap.size = q := ⟨_, rfl⟩
      rw [hnb]
      have HNB := hiddenN hnb
      have X1 : Hid (BlkA 24 nb (w.alloc (.cells #[.int .i64 m, .slice aa A.length ac] 24)) #[.int .i64 m, .slice aa A.length ac]) := by rw [← hnb]; exact X0.out
      clear hnb X0
      generalize w.alloc (.cells #[.int .i64 m, .slice aa A.length ac] 24) = W0 at *
      go_upto_region 4 with fail
      have hbe : ((v : Int) == (e : Int)) = false := by simp; omega
      try rw [hbe]
      clear hbe
      go_loopg [12] T.length (fun gk u wr => ∃ q : Nat, q ≤ T.length ∧ gk = T.length - q ∧ u = .int .i64 (q : Int) ∧ tryF A (fun x j => dfsF A T e k x (some j)) v came (T.drop q) = tryF A (fun x j => dfsF A T e k x (some j)) v came T ∧ Below W0.heap.size W0 wr)
      case atStart => exact ⟨0, Nat.zero_le _, rfl, rfl, rfl, Below.refl _ _⟩
      case round =>
        obtain ⟨q, hq, rfl, rfl, htr, hbr⟩ := hrel
        have BR := hiddenN hbr
        have BW := hiddenN (B0.out.trans (hbr.mono B0.out.size))
        clear hbr
        by_cases hlt : q < T.length
        · have hki : (q : Int) < (T.length : Int) := by omega
          rw [List.drop_eq_getElem_cons hlt] at htr
          have TR := hiddenN htr
          clear htr
          obtain ⟨tb1, to1, et, htb, hct⟩ := HTA.out q hlt
          have c1 := cellN_keep BW.out htb (hct q hlt)
          obtain ⟨j, hj⟩ : ∃ j, T[q] = j := ⟨_, rfl⟩
          have hjT := List.getElem_mem hlt
          rw [hj] at c1 TR hjT
          obtain ⟨hjA, hjf, hjt⟩ := HT.out j hjT
          obtain ⟨nb1, no1, en, hnb1, hcn⟩ := HA.out j hjA
          have hcn' := hcn j hjA
          have a0 := cellN_keep BW.out hnb1 hcn'.1
          have a1 := cellN_keep BW.out hnb1 hcn'.2.1
          have a2 := cellN_keep BW.out hnb1 hcn'.2.2.1
          have a3 := cellN_keep BW.out hnb1 hcn'.2.2.2.1
          have a4 := cellN_keep BW.out hnb1 hcn'.2.2.2.2
          rw [hjf] at a0
          rw [hjt] at a1
          clear hct hcn hcn' hj hjf hjt
          generalize (nthNa A j).g = ag at *
          generalize (nthNa A j).k = ak at *
          generalize (nthNa A j).s = az at *
          have hjI : (j : Int) < (A.length : Int) := by omega
          have X2 := hiddenN (X1.out.below BR.out)
          subst et
          subst en
          have n1 := X2.out.cell (k := 1) rfl
          simp only [List.getElem_toArray, List.getElem_cons_zero, List.getElem_cons_succ] at n1
          go_upto_region 6 with fail
          refine wp_region_gen [9] (fun d_ i u z => match i with
              | 0 => z = .pointer (some ⟨nb, 1, none⟩)
              | 1 => z = .slice (some ⟨nb1, no1, none⟩) A.length ac
              | 2 => z = .slice (some ⟨tb1, to1, none⟩) T.length tc
              | 3 => z = .int .i64 (q : Int)
              | 4 => z = .pointer (some ⟨tb1, to1 + q, none⟩)
              | 5 => z = .int .i64 (j : Int)
              | 6 => z = .pointer (some ⟨nb1, no1 + j * 5, none⟩)
              | 7 => z = .agg #[.int .i64 (fN A j : Int), .int .i64 (tN A j : Int), .int .i64 ag, .int .i64 ak, .int .i64 az]
              | 8 => BoxF wr.heap.size 52 #[.int .i64 0, .int .i64 0, .int .i64 0, .int .i64 0, .int .i64 0] #[.int .i64 (fN A j : Int), .int .i64 (tN A j : Int), .int .i64 ag, .int .i64 ak, .int .i64 az] (d_ 9) u z
              | 9 => True
              | _ => True) (fun d_ u => Below wr.heap.size wr u) (by kernel_rfl) (by kernel_rfl) (by kernel_rfl) ?_ ?_ ?_ ?_ ?_ ?_ (by kernel_rfl)
          · intro d_ i w v w' h hb
            match i, h with
            | 0, h => exact h
            | 1, h => exact h
            | 2, h => exact h
            | 3, h => exact h
            | 4, h => exact h
            | 5, h => exact h
            | 6, h => exact h
            | 7, h => exact h
            | 8, h => exact h.later hb
            | 9, h => exact h
            | _ + 10, _ => trivial
          · intro d_ u u' h hb
            exact h.trans (hb.mono h.size)
          · exact Below.refl _ _
          · intro d_ i o ρ w' hm ho hf hg hC hcs hfs hfr hdep
            match i, hm, ho, hf, hg, hfr, hdep with
            | 0, _, ho, hf, hg, hfr, hdep =>
              simp only [gTA, gCZ, gSI] at ho
              subst ho
              refine ⟨fun _ => ?_, fun hw => absurd (show true = false from hw) (by decide)⟩
              have ts : ρ (.tmp 5) = .pointer (some ⟨nb, 0, none⟩) := hfr 5 (by kernel_rfl)
              simp [go_sem, ts]
              exact ⟨Below.refl _ _, rfl⟩
            | 1, _, ho, hf, hg, hfr, hdep =>
              simp only [gTA, gCZ, gCS, gSI] at ho
              subst ho
              refine ⟨fun _ => ?_, fun hw => absurd (show true = false from hw) (by decide)⟩
              have cc := cellN_later hC n1
              have d0 : ρ (.tmp 27) = .pointer (some ⟨nb, 1, none⟩) := hdep 0 27 (by kernel_rfl) (by kernel_rfl)
              simp [go_sem, d0, cc]
              exact ⟨Below.refl _ _, rfl⟩
            | 2, _, ho, hf, hg, hfr, hdep =>
              simp only [gTA, gCZ, gCS, gSI] at ho
              subst ho
              refine ⟨fun _ => ?_, fun hw => absurd (show true = false from hw) (by decide)⟩
              have ts : ρ (.tmp 1) = .slice (some ⟨tb1, to1, none⟩) T.length tc := hfr 1 (by kernel_rfl)
              simp [go_sem, ts]
              exact ⟨Below.refl _ _, rfl⟩
            | 3, _, ho, hf, hg, hfr, hdep =>
              simp only [gTA, gCZ, gCS, gSI] at ho
              subst ho
              refine ⟨fun _ => ?_, fun hw => absurd (show true = false from hw) (by decide)⟩
              have ts : ρ (.tmp 12) = .int .i64 (q : Int) := hfr 12 (by kernel_rfl)
              simp [go_sem, ts]
              exact ⟨Below.refl _ _, rfl⟩
            | 4, _, ho, hf, hg, hfr, hdep =>
              simp only [gTA, gCZ, gCS, gSI] at ho
              subst ho
              refine ⟨fun _ => ?_, fun hw => absurd (show true = false from hw) (by decide)⟩
              have d0 : ρ (.tmp 29) = .slice (some ⟨tb1, to1, none⟩) T.length tc := hdep 2 29 (by kernel_rfl) (by kernel_rfl)
              have d1 : ρ (.tmp 30) = .int .i64 (q : Int) := hdep 3 30 (by kernel_rfl) (by kernel_rfl)
              simp [go_sem, d0, d1, hlt]
              exact ⟨Below.refl _ _, rfl⟩
            | 5, _, ho, hf, hg, hfr, hdep =>
              simp only [gTA, gCZ, gCS, gSI] at ho
              subst ho
              refine ⟨fun _ => ?_, fun hw => absurd (show true = false from hw) (by decide)⟩
              have cc := cellN_later hC c1
              have d0 : ρ (.tmp 31) = .pointer (some ⟨tb1, to1 + q, none⟩) := hdep 4 31 (by kernel_rfl) (by kernel_rfl)
              simp [go_sem, d0, cc]
              exact ⟨Below.refl _ _, rfl⟩
            | 6, _, ho, hf, hg, hfr, hdep =>
              simp only [gTA, gCZ, gCS, gSI] at ho
              subst ho
              refine ⟨fun _ => ?_, fun hw => absurd (show true = false from hw) (by decide)⟩
              have d0 : ρ (.tmp 28) = .slice (some ⟨nb1, no1, none⟩) A.length ac := hdep 1 28 (by kernel_rfl) (by kernel_rfl)
              have d1 : ρ (.tmp 32) = .int .i64 (j : Int) := hdep 5 32 (by kernel_rfl) (by kernel_rfl)
              simp [go_sem, d0, d1, hjA]
              exact ⟨Below.refl _ _, rfl⟩
            | 7, _, ho, hf, hg, hfr, hdep =>
              simp only [gTA, gCZ, gCS, gSI] at ho
              subst ho
              refine ⟨fun _ => ?_, fun hw => absurd (show true = false from hw) (by decide)⟩
              have k0 := cellN_later hC a0
              have k1 := cellN_later hC a1
              have k2 := cellN_later hC a2
              have k3 := cellN_later hC a3
              have k4 := cellN_later hC a4
              have d0 : ρ (.tmp 33) = .pointer (some ⟨nb1, no1 + j * 5, none⟩) := hdep 6 33 (by kernel_rfl) (by kernel_rfl)
              simp [go_sem, d0, k0, k1, k2, k3, k4]
              exact ⟨Below.refl _ _, rfl⟩
            | 8, _, ho, hf, hg, hfr, hdep =>
              simp only [gTA, gCZ, gCS, gSI] at ho
              subst ho
              refine ⟨fun _ => ?_, fun hw => absurd (show true = false from hw) (by decide)⟩
              have h9 : d_ 9 = false := hf 9 (by decide) (by kernel_rfl)
              simp [go_sem]
              rw [h9]
              exact ⟨(Below.refl _ _).alloc (Nat.le_refl _) _, w'.heap.size, rfl, hC.size, blkA_new 52 w' _⟩
            | 9, hm, _, _, _, _, _ => exact absurd hm (by decide)
            | n + 10, _, ho, _, _, _, _ => simp at ho
          · intro d_ i o ρ w' hm ho h0 hf hg hC hcs hfs hfr hdep
            match i, hm, ho, h0, hf, hg, hfr, hdep with
            | 0, hm, _, _, _, _, _, _ => exact absurd hm (by decide)
            | 1, hm, _, _, _, _, _, _ => exact absurd hm (by decide)
            | 2, hm, _, _, _, _, _, _ => exact absurd hm (by decide)
            | 3, hm, _, _, _, _, _, _ => exact absurd hm (by decide)
            | 4, hm, _, _, _, _, _, _ => exact absurd hm (by decide)
            | 5, hm, _, _, _, _, _, _ => exact absurd hm (by decide)
            | 6, hm, _, _, _, _, _, _ => exact absurd hm (by decide)
            | 7, hm, _, _, _, _, _, _ => exact absurd hm (by decide)
            | 8, hm, _, _, _, _, _, _ => exact absurd hm (by decide)
            | 9, _, ho, h0, hf, hg, hfr, hdep =>
              simp only [gTA, gCZ, gCS, gSI] at ho
              subst ho
              have t0 : ρ (.tmp 34) = .agg #[.int .i64 (fN A j : Int), .int .i64 (tN A j : Int), .int .i64 ag, .int .i64 ak, .int .i64 az] := hdep 7 34 (by kernel_rfl) (by kernel_rfl)
              have t8 : BoxF wr.heap.size 52 #[.int .i64 0, .int .i64 0, .int .i64 0, .int .i64 0, .int .i64 0] #[.int .i64 (fN A j : Int), .int .i64 (tN A j : Int), .int .i64 ag, .int .i64 ak, .int .i64 az] (d_ 9) w' (ρ (.tmp 13)) := hdep 8 13 (by kernel_rfl) (by kernel_rfl)
              rw [h0] at t8
              obtain ⟨xb, e8, l8, b8⟩ := t8
              have b8 : BlkA 52 xb w' #[.int .i64 0, .int .i64 0, .int .i64 0, .int .i64 0, .int .i64 0] := b8
              have z0 : w'.cell? ⟨xb, 0, none⟩ = some (.int .i64 0) := b8.cell rfl
              have z1 : w'.cell? ⟨xb, 1, none⟩ = some (.int .i64 0) := b8.cell rfl
              have z2 : w'.cell? ⟨xb, 2, none⟩ = some (.int .i64 0) := b8.cell rfl
              have z3 : w'.cell? ⟨xb, 3, none⟩ = some (.int .i64 0) := b8.cell rfl
              have z4 : w'.cell? ⟨xb, 4, none⟩ = some (.int .i64 0) := b8.cell rfl
              have f0 := b8.frozen 0
              have f1 := b8.frozen 1
              have f2 := b8.frozen 2
              have f3 := b8.frozen 3
              have f4 := b8.frozen 4
              have hB := (((((b8.set 0 (.int .i64 (fN A j : Int))).set 1 (.int .i64 (tN A j : Int))).set 2 (.int .i64 ag)).set 3 (.int .i64 ak)).set 4 (.int .i64 az))
              have hbt := ((((But.set w' xb 0 (.int .i64 (fN A j : Int))).trans (But.set _ xb 1 (.int .i64 (tN A j : Int)))).trans (But.set _ xb 2 (.int .i64 ag))).trans (But.set _ xb 3 (.int .i64 ak))).trans (But.set _ xb 4 (.int .i64 az))
              refine ⟨rfl, markUpon_skip (w' := ((((w'.setCell ⟨xb, 0, none⟩ (.int .i64 (fN A j : Int))).setCell ⟨xb, 1, none⟩ (.int .i64 (tN A j : Int))).setCell ⟨xb, 2, none⟩ (.int .i64 ag)).setCell ⟨xb, 3, none⟩ (.int .i64 ak)).setCell ⟨xb, 4, none⟩ (.int .i64 az)) (by simp [go_sem, t0, e8, z0, z1, z2, z3, z4, f0, f1, f2, f3, f4]) ?_⟩
              refine ⟨hC.trans (hbt.below l8 hC.size), fun h => absurd rfl h, ?_⟩
              intro i t hi hs
              match i, hi, hs with
              | 0, _, hs => exact hs
              | 1, _, hs => exact hs
              | 2, _, hs => exact hs
              | 3, _, hs => exact hs
              | 4, _, hs => exact hs
              | 5, _, hs => exact hs
              | 6, _, hs => exact hs
              | 7, _, hs => exact hs
              | 8, hi, hs => (cases hi; rw [doneAt_eq, e8]; exact ⟨xb, rfl, l8, hB⟩)
              | 9, hi, hs => trivial
              | _ + 10, _, _ => trivial
            | n + 10, _, ho, _, _, _, _, _ => simp at ho
          · intro U1 W1 hC1 hS
            obtain ⟨xb, e8, hx0, hx1⟩ : BoxF wr.heap.size 52 #[.int .i64 0, .int .i64 0, .int .i64 0, .int .i64 0, .int .i64 0] #[.int .i64 (fN A j : Int), .int .i64 (tN A j : Int), .int .i64 ag, .int .i64 ak, .int .i64 az] true W1 (U1 8) := hS 8 (by decide) (by intro h; cases h)
            simp only [puts, put_none, e8]
            simp only [Act.put, List.setIfInBounds_toArray, List.set_cons_zero, List.set_cons_succ]
            clear hS e8
            have B1R := hiddenN (BR.out.trans (hC1.mono BR.out.size))
            have B1W := hiddenN (BW.out.trans (hC1.mono BW.out.size))
            have HX : Hid (BlkA 52 xb W1 #[.int .i64 (fN A j : Int), .int .i64 (tN A j : Int), .int .i64 ag, .int .i64 ak, .int .i64 az]) := hx1
            have XN := hiddenN (X2.out.below hC1)
            have c2' := cellN_later hC1 c1
            clear hx1 hx0 X2 a0 a1 a2 a3 a4 n1 c1 hC1 BR BW
            have c1 := c2'
            have x0 := HX.out.cell (k := 0) rfl
            have x1 := HX.out.cell (k := 1) rfl
            have y0 := XN.out.cell (k := 0) rfl
            have y1 := XN.out.cell (k := 1) rfl
            simp only [List.getElem_toArray, List.getElem_cons_zero, List.getElem_cons_succ] at x0 x1 y0 y1
            clear c2' XN
            by_cases hc : came = some j
            · have TG : Hid (tryF A (fun x j => dfsF A T e k x (some j)) v came (T.drop (q + 1)) = tryF A (fun x j => dfsF A T e k x (some j)) v came T) := by
                show _ = _
                rw [← TR.out]
                cases hcr : crossF A j v with
                | none => rw [tryF_none hcr]
                | some y => rw [tryF_came hcr hc]
              have hcj := (CM.out j).2 hc
              subst hcj
              clear TR CM HD IH
              go_wp2
              go_roundg (T.length - (q + 1))
              case measure => omega
              case rel => exact ⟨q + 1, by omega, rfl, by go_num, TG.out, B1R.out⟩
            · have hcn' : ¬ (j : Int) = cm := fun e => hc ((CM.out j).1 e.symm)
              have hcn : ((j : Int) == cm) = false := by simpa using hcn'
              clear hcn'
              by_cases hf : fN A j = v
              · have hcr : crossF A j v = some (tN A j, false) := by unfold crossF; rw [if_pos hf]
                generalize tN A j = x at *
                rw [hf] at x0 HX
                clear hf
                go_upto_region 11 with fail
                have DN := hiddenN (HD.out.next hjT hcr hc)
                have GP : Hid (dfsF A T e k x (some j) = none → tryF A (fun x j => dfsF A T e k x (some j)) v came (T.drop (q + 1)) = tryF A (fun x j => dfsF A T e k x (some j)) v came T) := fun h => by rw [← TR.out, tryF_past hcr hc h]
                have GS : Hid (∀ Q, dfsF A T e k x (some j) = some Q → tryF A (fun x j => dfsF A T e k x (some j)) v came T = some ((j, false) :: Q)) := fun Q h => by rw [← TR.out, tryF_got hcr hc h]
                have SE : Hid (∀ U, Below W1.heap.size W1 U → Calls Try.prog 44 #[.agg #[.int .i64 m, .slice (some ⟨nb1, no1, none⟩) A.length ac], .slice (some ⟨tb1, to1, none⟩) T.length tc, .int .i64 (x : Int), .int .i64 (e : Int), .int .i64 (j : Int)] U (SeaE U (dfsF A T e k x (some j)))) := fun U hU => IH.out x (some j) U DN.out (HAN.out.below (B1W.out.trans (hU.mono B1W.out.size))) (HTI.out.below (B1W.out.trans (hU.mono B1W.out.size))) (by omega)
                clear hcr hc TR HD CM IH DN
                obtain ⟨r, hr⟩ : ∃ r, dfsF A T e k x (some j) = r := ⟨_, rfl⟩
                rw [hr] at GP GS SE
                clear hr
                refine wp_region_gen [] (fun d_ i u z => match i with
                    | 0 => z = .agg #[.int .i64 m, .slice (some ⟨nb1, no1, none⟩) A.length ac]
                    | 1 => z = .slice (some ⟨tb1, to1, none⟩) T.length tc
                    | 2 => z = .int .i64 (x : Int)
                    | 3 => z = .int .i64 (e : Int)
                    | 4 => z = .slice (some ⟨tb1, to1, none⟩) T.length tc
                    | 5 => z = .int .i64 (q : Int)
                    | 6 => z = .pointer (some ⟨tb1, to1 + q, none⟩)
                    | 7 => z = .int .i64 (j : Int)
                    | 8 => SeV W1.heap.size r u z
                    | 9 => SeV W1.heap.size r u z
                    | 10 => SlS W1.heap.size (r.getD []) u z
                    | 11 => z = .bool r.isSome
                    | 12 => SlS W1.heap.size (r.getD []) u z
                    | 13 => z = .bool r.isSome
                    | _ => True) (fun d_ u => Below W1.heap.size W1 u) (by kernel_rfl) (by kernel_rfl) (by kernel_rfl) ?_ ?_ ?_ ?_ ?_ ?_ (by kernel_rfl)
                · intro d_ i w v w' h hb
                  match i, h with
                  | 0, h => exact h
                  | 1, h => exact h
                  | 2, h => exact h
                  | 3, h => exact h
                  | 4, h => exact h
                  | 5, h => exact h
                  | 6, h => exact h
                  | 7, h => exact h
                  | 8, h => exact h.later hb
                  | 9, h => exact h.later hb
                  | 10, h => exact h.later hb
                  | 11, h => exact h
                  | 12, h => exact h.later hb
                  | 13, h => exact h
                  | _ + 14, _ => trivial
                · intro d_ u u' h hb
                  exact h.trans (hb.mono h.size)
                · exact Below.refl _ _
                · intro d_ i o ρ w' hm ho hf hg hC hcs hfs hfr hdep
                  match i, hm, ho, hf, hg, hfr, hdep with
                  | 0, _, ho, hf, hg, hfr, hdep =>
                    simp only [gTA, gCZ, gSI] at ho
                    subst ho
                    refine ⟨fun _ => ?_, fun hw => absurd (show true = false from hw) (by decide)⟩
                    have ts : ρ (.tmp 5) = .pointer (some ⟨nb, 0, none⟩) := hfr 5 (by kernel_rfl)
                    have k0 := cellN_later hC y0
                    have k1 := cellN_later hC y1
                    simp [go_sem, ts, k0, k1]
                    exact ⟨Below.refl _ _, rfl⟩
                  | 1, _, ho, hf, hg, hfr, hdep =>
                    simp only [gTA, gCZ, gCS, gSI] at ho
                    subst ho
                    refine ⟨fun _ => ?_, fun hw => absurd (show true = false from hw) (by decide)⟩
                    have ts : ρ (.tmp 1) = .slice (some ⟨tb1, to1, none⟩) T.length tc := hfr 1 (by kernel_rfl)
                    simp [go_sem, ts]
                    exact ⟨Below.refl _ _, rfl⟩
                  | 2, _, ho, hf, hg, hfr, hdep =>
                    simp only [gTA, gCZ, gCS, gSI] at ho
                    subst ho
                    refine ⟨fun _ => ?_, fun hw => absurd (show true = false from hw) (by decide)⟩
                    have ts : ρ (.tmp 14) = .int .i64 (x : Int) := hfr 14 (by kernel_rfl)
                    simp [go_sem, ts]
                    exact ⟨Below.refl _ _, rfl⟩
                  | 3, _, ho, hf, hg, hfr, hdep =>
                    simp only [gTA, gCZ, gCS, gSI] at ho
                    subst ho
                    refine ⟨fun _ => ?_, fun hw => absurd (show true = false from hw) (by decide)⟩
                    have ts : ρ (.tmp 3) = .int .i64 (e : Int) := hfr 3 (by kernel_rfl)
                    simp [go_sem, ts]
                    exact ⟨Below.refl _ _, rfl⟩
                  | 4, _, ho, hf, hg, hfr, hdep =>
                    simp only [gTA, gCZ, gCS, gSI] at ho
                    subst ho
                    refine ⟨fun _ => ?_, fun hw => absurd (show true = false from hw) (by decide)⟩
                    have ts : ρ (.tmp 1) = .slice (some ⟨tb1, to1, none⟩) T.length tc := hfr 1 (by kernel_rfl)
                    simp [go_sem, ts]
                    exact ⟨Below.refl _ _, rfl⟩
                  | 5, _, ho, hf, hg, hfr, hdep =>
                    simp only [gTA, gCZ, gCS, gSI] at ho
                    subst ho
                    refine ⟨fun _ => ?_, fun hw => absurd (show true = false from hw) (by decide)⟩
                    have ts : ρ (.tmp 12) = .int .i64 (q : Int) := hfr 12 (by kernel_rfl)
                    simp [go_sem, ts]
                    exact ⟨Below.refl _ _, rfl⟩
                  | 6, _, ho, hf, hg, hfr, hdep =>
                    simp only [gTA, gCZ, gCS, gSI] at ho
                    subst ho
                    refine ⟨fun _ => ?_, fun hw => absurd (show true = false from hw) (by decide)⟩
                    have d0 : ρ (.tmp 66) = .slice (some ⟨tb1, to1, none⟩) T.length tc := hdep 4 66 (by kernel_rfl) (by kernel_rfl)
                    have d1 : ρ (.tmp 67) = .int .i64 (q : Int) := hdep 5 67 (by kernel_rfl) (by kernel_rfl)
                    simp [go_sem, d0, d1, hlt]
                    exact ⟨Below.refl _ _, rfl⟩
                  | 7, _, ho, hf, hg, hfr, hdep =>
                    simp only [gTA, gCZ, gCS, gSI] at ho
                    subst ho
                    refine ⟨fun _ => ?_, fun hw => absurd (show true = false from hw) (by decide)⟩
                    have cc := cellN_later hC c1
                    have d0 : ρ (.tmp 68) = .pointer (some ⟨tb1, to1 + q, none⟩) := hdep 6 68 (by kernel_rfl) (by kernel_rfl)
                    simp [go_sem, d0, cc]
                    exact ⟨Below.refl _ _, rfl⟩
                  | 8, _, ho, hf, hg, hfr, hdep =>
                    simp only [gTA, gCZ, gCS, gSI] at ho
                    subst ho
                    refine ⟨fun _ => ?_, fun hw => absurd (show true = false from hw) (by decide)⟩
                    have t0 : ρ (.tmp 62) = .agg #[.int .i64 m, .slice (some ⟨nb1, no1, none⟩) A.length ac] := hdep 0 62 (by kernel_rfl) (by kernel_rfl)
                    have t1 : ρ (.tmp 63) = .slice (some ⟨tb1, to1, none⟩) T.length tc := hdep 1 63 (by kernel_rfl) (by kernel_rfl)
                    have t2 : ρ (.tmp 64) = .int .i64 (x : Int) := hdep 2 64 (by kernel_rfl) (by kernel_rfl)
                    have t3 : ρ (.tmp 65) = .int .i64 (e : Int) := hdep 3 65 (by kernel_rfl) (by kernel_rfl)
                    have t4 : ρ (.tmp 69) = .int .i64 (j : Int) := hdep 7 69 (by kernel_rfl) (by kernel_rfl)
                    simp [go_sem, t0, t1, t2, t3, t4, hfs]
                    exact ⟨rfl, (SE.out w' hC).mono fun e' w'' hh => seV_of hh hC.size⟩
                  | 9, _, ho, hf, hg, hfr, hdep =>
                    simp only [gTA, gCZ, gCS, gSI] at ho
                    subst ho
                    refine ⟨fun _ => ?_, fun hw => absurd (show true = false from hw) (by decide)⟩
                    have t0 : SeV W1.heap.size r w' (ρ (.tmp 70)) := hdep 8 70 (by kernel_rfl) (by kernel_rfl)
                    obtain ⟨d9, c9, q0, q1⟩ := t0
                    simp [go_sem, q0]
                    exact ⟨Below.refl _ _, d9, c9, rfl, q1⟩
                  | 10, _, ho, hf, hg, hfr, hdep =>
                    simp only [gTA, gCZ, gCS, gSI] at ho
                    subst ho
                    refine ⟨fun _ => ?_, fun hw => absurd (show true = false from hw) (by decide)⟩
                    have t0 : SeV W1.heap.size r w' (ρ (.tmp 61)) := hdep 9 61 (by kernel_rfl) (by kernel_rfl)
                    obtain ⟨d9, c9, q0, q1⟩ := t0
                    simp [go_sem, q0]
                    exact ⟨Below.refl _ _, d9, c9, rfl, q1⟩
                  | 11, _, ho, hf, hg, hfr, hdep =>
                    simp only [gTA, gCZ, gCS, gSI] at ho
                    subst ho
                    refine ⟨fun _ => ?_, fun hw => absurd (show true = false from hw) (by decide)⟩
                    have t0 : SeV W1.heap.size r w' (ρ (.tmp 61)) := hdep 9 61 (by kernel_rfl) (by kernel_rfl)
                    obtain ⟨d9, c9, q0, q1⟩ := t0
                    simp [go_sem, q0]
                    exact ⟨Below.refl _ _, rfl⟩
                  | 12, _, ho, hf, hg, hfr, hdep =>
                    simp only [gTA, gCZ, gCS, gSI] at ho
                    subst ho
                    refine ⟨fun _ => ?_, fun hw => absurd (show true = false from hw) (by decide)⟩
                    have t0 : SlS W1.heap.size (r.getD []) w' (ρ (.tmp 71)) := hdep 10 71 (by kernel_rfl) (by kernel_rfl)
                    obtain ⟨d9, c9, q0, q1⟩ := t0
                    simp [go_sem, q0]
                    exact ⟨Below.refl _ _, d9, c9, rfl, q1⟩
                  | 13, _, ho, hf, hg, hfr, hdep =>
                    simp only [gTA, gCZ, gCS, gSI] at ho
                    subst ho
                    refine ⟨fun _ => ?_, fun hw => absurd (show true = false from hw) (by decide)⟩
                    have t0 : ρ (.tmp 72) = .bool r.isSome := hdep 11 72 (by kernel_rfl) (by kernel_rfl)
                    simp [go_sem, t0]
                    exact ⟨Below.refl _ _, rfl⟩
                  | n + 14, _, ho, _, _, _, _ => simp at ho
                · intro d_ i o ρ w' hm ho h0 hf hg hC hcs hfs hfr hdep
                  exact absurd hm (by simp)
                · intro U2 W2 hC2 hS
                  obtain ⟨d2, c2, e12, D2⟩ : SlS W1.heap.size (r.getD []) W2 (U2 12) := hS 12 (by decide) (by intro h; cases h)
                  have e13 : U2 13 = .bool r.isSome := hS 13 (by decide) (by intro h; cases h)
                  simp only [puts, e12, e13]
                  simp only [Act.put, List.setIfInBounds_toArray, List.set_cons_zero, List.set_cons_succ]
                  clear hS e12 e13
                  have c3 := cellN_later hC2 c1
                  have X3 := hiddenN (HX.out.below hC2)
                  have x3 := X3.out.cell (k := 0) rfl
                  simp only [List.getElem_toArray, List.getElem_cons_zero] at x3
                  have B2R := hiddenN (B1R.out.trans (hC2.mono B1R.out.size))
                  have B2W := hiddenN (B1W.out.trans (hC2.mono B1W.out.size))
                  have DD := hiddenN D2
                  have hw12 : w.heap.size ≤ W1.heap.size := B1W.out.size
                  have hw2 : w.heap.size ≤ W2.heap.size := B2W.out.size
                  clear SE D2 hC2 HX x0 x1 y0 y1 c1
                  cases r with
                  | none =>
                    have TG := hiddenN (GP.out rfl)
                    clear GP GS
                    go_wp2
                    go_roundg (T.length - (q + 1))
                    case measure => omega
                    case rel => exact ⟨q + 1, by omega, rfl, by go_num, TG.out, B2R.out⟩
                  | some Q =>
                    have TG := hiddenN (GS.out Q rfl)
                    clear GP GS
                    have hQl := PL.out _ TG.out
                    simp only [List.length_cons] at hQl
                    rw [show (some Q).getD [] = Q from rfl] at DD
                    go_upto_region 14 with fail
                    refine wp_region_gen [] (fun d_ i u z => match i with
                        | 0 => z = .slice none 0 0
                        | 1 => z = .slice (some ⟨tb1, to1, none⟩) T.length tc
                        | 2 => z = .int .i64 (q : Int)
                        | 3 => z = .pointer (some ⟨tb1, to1 + q, none⟩)
                        | 4 => z = .int .i64 (j : Int)
                        | 5 => z = .pointer (some ⟨xb, 0, none⟩)
                        | 6 => z = .int .i64 (v : Int)
                        | 7 => z = .int .i64 (v : Int)
                        | 8 => z = .bool false
                        | 9 => z = .agg #[.int .i64 (j : Int), .bool false]
                        | 10 => ElS j false u z
                        | 11 => SlS W2.heap.size [(j, false)] u z
                        | 12 => SlS W2.heap.size [(j, false)] u z
                        | _ => True) (fun d_ u => Below W2.heap.size W2 u) (by kernel_rfl) (by kernel_rfl) (by kernel_rfl) ?_ ?_ ?_ ?_ ?_ ?_ (by kernel_rfl)
                    · intro d_ i w v w' h hb
                      match i, h with
                      | 0, h => exact h
                      | 1, h => exact h
                      | 2, h => exact h
                      | 3, h => exact h
                      | 4, h => exact h
                      | 5, h => exact h
                      | 6, h => exact h
                      | 7, h => exact h
                      | 8, h => exact h
                      | 9, h => exact h
                      | 10, h => exact h.later hb
                      | 11, h => exact h.later hb
                      | 12, h => exact h.later hb
                      | _ + 13, _ => trivial
                    · intro d_ u u' h hb
                      exact h.trans (hb.mono h.size)
                    · exact Below.refl _ _
                    · intro d_ i o ρ w' hm ho hf hg hC hcs hfs hfr hdep
                      match i, hm, ho, hf, hg, hfr, hdep with
                      | 0, _, ho, hf, hg, hfr, hdep =>
                        simp only [gTA, gCZ, gSI] at ho
                        subst ho
                        refine ⟨fun _ => ?_, fun hw => absurd (show true = false from hw) (by decide)⟩
                        have ts : ρ (.tmp 17) = .slice none 0 0 := hfr 17 (by kernel_rfl)
                        simp [go_sem, ts]
                        exact ⟨Below.refl _ _, rfl⟩
                      | 1, _, ho, hf, hg, hfr, hdep =>
                        simp only [gTA, gCZ, gCS, gSI] at ho
                        subst ho
                        refine ⟨fun _ => ?_, fun hw => absurd (show true = false from hw) (by decide)⟩
                        have ts : ρ (.tmp 1) = .slice (some ⟨tb1, to1, none⟩) T.length tc := hfr 1 (by kernel_rfl)
                        simp [go_sem, ts]
                        exact ⟨Below.refl _ _, rfl⟩
                      | 2, _, ho, hf, hg, hfr, hdep =>
                        simp only [gTA, gCZ, gCS, gSI] at ho
                        subst ho
                        refine ⟨fun _ => ?_, fun hw => absurd (show true = false from hw) (by decide)⟩
                        have ts : ρ (.tmp 12) = .int .i64 (q : Int) := hfr 12 (by kernel_rfl)
                        simp [go_sem, ts]
                        exact ⟨Below.refl _ _, rfl⟩
                      | 3, _, ho, hf, hg, hfr, hdep =>
                        simp only [gTA, gCZ, gCS, gSI] at ho
                        subst ho
                        refine ⟨fun _ => ?_, fun hw => absurd (show true = false from hw) (by decide)⟩
                        have d0 : ρ (.tmp 75) = .slice (some ⟨tb1, to1, none⟩) T.length tc := hdep 1 75 (by kernel_rfl) (by kernel_rfl)
                        have d1 : ρ (.tmp 76) = .int .i64 (q : Int) := hdep 2 76 (by kernel_rfl) (by kernel_rfl)
                        simp [go_sem, d0, d1, hlt]
                        exact ⟨Below.refl _ _, rfl⟩
                      | 4, _, ho, hf, hg, hfr, hdep =>
                        simp only [gTA, gCZ, gCS, gSI] at ho
                        subst ho
                        refine ⟨fun _ => ?_, fun hw => absurd (show true = false from hw) (by decide)⟩
                        have cc := cellN_later hC c3
                        have d0 : ρ (.tmp 77) = .pointer (some ⟨tb1, to1 + q, none⟩) := hdep 3 77 (by kernel_rfl) (by kernel_rfl)
                        simp [go_sem, d0, cc]
                        exact ⟨Below.refl _ _, rfl⟩
                      | 5, _, ho, hf, hg, hfr, hdep =>
                        simp only [gTA, gCZ, gCS, gSI] at ho
                        subst ho
                        refine ⟨fun _ => ?_, fun hw => absurd (show true = false from hw) (by decide)⟩
                        have ts : ρ (.tmp 13) = .pointer (some ⟨xb, 0, none⟩) := hfr 13 (by kernel_rfl)
                        simp [go_sem, ts]
                        exact ⟨Below.refl _ _, rfl⟩
                      | 6, _, ho, hf, hg, hfr, hdep =>
                        simp only [gTA, gCZ, gCS, gSI] at ho
                        subst ho
                        refine ⟨fun _ => ?_, fun hw => absurd (show true = false from hw) (by decide)⟩
                        have cc := cellN_later hC x3
                        have d0 : ρ (.tmp 79) = .pointer (some ⟨xb, 0, none⟩) := hdep 5 79 (by kernel_rfl) (by kernel_rfl)
                        simp [go_sem, d0, cc]
                        exact ⟨Below.refl _ _, rfl⟩
                      | 7, _, ho, hf, hg, hfr, hdep =>
                        simp only [gTA, gCZ, gCS, gSI] at ho
                        subst ho
                        refine ⟨fun _ => ?_, fun hw => absurd (show true = false from hw) (by decide)⟩
                        have ts : ρ (.tmp 2) = .int .i64 (v : Int) := hfr 2 (by kernel_rfl)
                        simp [go_sem, ts]
                        exact ⟨Below.refl _ _, rfl⟩
                      | 8, _, ho, hf, hg, hfr, hdep =>
                        simp only [gTA, gCZ, gCS, gSI] at ho
                        subst ho
                        refine ⟨fun _ => ?_, fun hw => absurd (show true = false from hw) (by decide)⟩
                        have t0 : ρ (.tmp 80) = .int .i64 (v : Int) := hdep 6 80 (by kernel_rfl) (by kernel_rfl)
                        have t1 : ρ (.tmp 81) = .int .i64 (v : Int) := hdep 7 81 (by kernel_rfl) (by kernel_rfl)
                        simp [go_sem, t0, t1]
                        exact ⟨Below.refl _ _, rfl⟩
                      | 9, _, ho, hf, hg, hfr, hdep =>
                        simp only [gTA, gCZ, gCS, gSI] at ho
                        subst ho
                        refine ⟨fun _ => ?_, fun hw => absurd (show true = false from hw) (by decide)⟩
                        have d0 : ρ (.tmp 78) = .int .i64 (j : Int) := hdep 4 78 (by kernel_rfl) (by kernel_rfl)
                        have d1 : ρ (.tmp 82) = .bool false := hdep 8 82 (by kernel_rfl) (by kernel_rfl)
                        simp [go_sem, d0, d1]
                        exact ⟨Below.refl _ _, rfl⟩
                      | 10, _, ho, hf, hg, hfr, hdep =>
                        simp only [gTA, gCZ, gCS, gSI] at ho
                        subst ho
                        refine ⟨fun _ => ?_, fun hw => absurd (show true = false from hw) (by decide)⟩
                        have t0 : ρ (.tmp 83) = .agg #[.int .i64 (j : Int), .bool false] := hdep 9 83 (by kernel_rfl) (by kernel_rfl)
                        simp [go_sem, t0]
                        exact ⟨(Below.refl _ _).alloc (Nat.le_refl _) _, w'.heap.size, rfl, (blkA_new 46 w' #[.int .i64 (j : Int), .bool false]).cell rfl, (blkA_new 46 w' #[.int .i64 (j : Int), .bool false]).cell rfl⟩
                      | 11, _, ho, hf, hg, hfr, hdep =>
                        simp only [gTA, gCZ, gCS, gSI] at ho
                        subst ho
                        refine ⟨fun _ => ?_, fun hw => absurd (show true = false from hw) (by decide)⟩
                        have t0_ : ρ (.tmp 74) = .slice none 0 0 := hdep 0 74 (by kernel_rfl) (by kernel_rfl)
                        have t0 : ElS j false w' (ρ (.tmp 84)) := hdep 10 84 (by kernel_rfl) (by kernel_rfl)
                        exact step_appS0 (.tmp 74) (.tmp 84) rfl t0_ t0 hC.size
                      | 12, _, ho, hf, hg, hfr, hdep =>
                        simp only [gTA, gCZ, gCS, gSI] at ho
                        subst ho
                        refine ⟨fun _ => ?_, fun hw => absurd (show true = false from hw) (by decide)⟩
                        have t0 : SlS W2.heap.size [(j, false)] w' (ρ (.tmp 85)) := hdep 11 85 (by kernel_rfl) (by kernel_rfl)
                        obtain ⟨d9, c9, q0, q1⟩ := t0
                        simp [go_sem, q0]
                        exact ⟨Below.refl _ _, d9, c9, rfl, q1⟩
                      | n + 13, _, ho, _, _, _, _ => simp at ho
                    · intro d_ i o ρ w' hm ho h0 hf hg hC hcs hfs hfr hdep
                      exact absurd hm (by simp)
                    · intro U3 W3 hC3 hS
                      obtain ⟨d3, k3, e12, D3⟩ : SlS W2.heap.size [(j, false)] W3 (U3 12) := hS 12 (by decide) (by intro h; cases h)
                      simp only [puts, e12]
                      simp only [Act.put, List.setIfInBounds_toArray, List.set_cons_zero, List.set_cons_succ]
                      clear hS e12
                      have AQ := hiddenN (DD.out.at.below hC3)
                      have C3 := hiddenN D3
                      have B3 := hiddenN hC3
                      have hs3 : W2.heap.size ≤ W3.heap.size := hC3.size
                      clear D3 hC3 c3 x3
                      go_upto_region 16 with (at_builtin; refine wpList_appS rfl _ _ rfl W2.heap.size d3 k3 [(j, false)] rfl C3.out d2 c2 Q rfl DD.out.none AQ.out (by simp; omega) hs3 (Q.length + 1) ([(j, false)] ++ Q) (Nat.add_comm 1 _) rfl ?_; intro d4 c4 W4 hd4 b4; have C4 := hiddenN hd4; have B4 := hiddenN (B3.out.trans b4); clear hd4 b4)
                      rw [← HRE.out, TG.out]
                      exact ⟨d4, c4, rfl, C4.out.mono hw2, B2W.out.trans (B4.out.mono hw2)⟩
              · by_cases ht : tN A j = v
                · have hcr : crossF A j v = some (fN A j, true) := by unfold crossF; rw [if_neg hf, if_pos ht]
                  generalize fN A j = x at *
                  rw [ht] at x1 HX
                  have hxv : ((x : Int) != (v : Int)) = true := by simp; omega
                  have HXV : Hid (¬ x = v) := hf
                  clear hf
                  clear ht
                  go_upto_region 11 with fail
                  have DN := hiddenN (HD.out.next hjT hcr hc)
                  have GP : Hid (dfsF A T e k x (some j) = none → tryF A (fun x j => dfsF A T e k x (some j)) v came (T.drop (q + 1)) = tryF A (fun x j => dfsF A T e k x (some j)) v came T) := fun h => by rw [← TR.out, tryF_past hcr hc h]
                  have GS : Hid (∀ Q, dfsF A T e k x (some j) = some Q → tryF A (fun x j => dfsF A T e k x (some j)) v came T = some ((j, true) :: Q)) := fun Q h => by rw [← TR.out, tryF_got hcr hc h]
                  have SE : Hid (∀ U, Below W1.heap.size W1 U → Calls Try.prog 44 #[.agg #[.int .i64 m, .slice (some ⟨nb1, no1, none⟩) A.length ac], .slice (some ⟨tb1, to1, none⟩) T.length tc, .int .i64 (x : Int), .int .i64 (e : Int), .int .i64 (j : Int)] U (SeaE U (dfsF A T e k x (some j)))) := fun U hU => IH.out x (some j) U DN.out (HAN.out.below (B1W.out.trans (hU.mono B1W.out.size))) (HTI.out.below (B1W.out.trans (hU.mono B1W.out.size))) (by omega)
                  clear hcr hc TR HD CM IH DN
                  obtain ⟨r, hr⟩ : ∃ r, dfsF A T e k x (some j) = r := ⟨_, rfl⟩
                  rw [hr] at GP GS SE
                  clear hr
                  refine wp_region_gen [] (fun d_ i u z => match i with
                      | 0 => z = .agg #[.int .i64 m, .slice (some ⟨nb1, no1, none⟩) A.length ac]
                      | 1 => z = .slice (some ⟨tb1, to1, none⟩) T.length tc
                      | 2 => z = .int .i64 (x : Int)
                      | 3 => z = .int .i64 (e : Int)
                      | 4 => z = .slice (some ⟨tb1, to1, none⟩) T.length tc
                      | 5 => z = .int .i64 (q : Int)
                      | 6 => z = .pointer (some ⟨tb1, to1 + q, none⟩)
                      | 7 => z = .int .i64 (j : Int)
                      | 8 => SeV W1.heap.size r u z
                      | 9 => SeV W1.heap.size r u z
                      | 10 => SlS W1.heap.size (r.getD []) u z
                      | 11 => z = .bool r.isSome
                      | 12 => SlS W1.heap.size (r.getD []) u z
                      | 13 => z = .bool r.isSome
                      | _ => True) (fun d_ u => Below W1.heap.size W1 u) (by kernel_rfl) (by kernel_rfl) (by kernel_rfl) ?_ ?_ ?_ ?_ ?_ ?_ (by kernel_rfl)
                  · intro d_ i w v w' h hb
                    match i, h with
                    | 0, h => exact h
                    | 1, h => exact h
                    | 2, h => exact h
                    | 3, h => exact h
                    | 4, h => exact h
                    | 5, h => exact h
                    | 6, h => exact h
                    | 7, h => exact h
                    | 8, h => exact h.later hb
                    | 9, h => exact h.later hb
                    | 10, h => exact h.later hb
                    | 11, h => exact h
                    | 12, h => exact h.later hb
                    | 13, h => exact h
                    | _ + 14, _ => trivial
                  · intro d_ u u' h hb
                    exact h.trans (hb.mono h.size)
                  · exact Below.refl _ _
                  · intro d_ i o ρ w' hm ho hf hg hC hcs hfs hfr hdep
                    match i, hm, ho, hf, hg, hfr, hdep with
                    | 0, _, ho, hf, hg, hfr, hdep =>
                      simp only [gTA, gCZ, gSI] at ho
                      subst ho
                      refine ⟨fun _ => ?_, fun hw => absurd (show true = false from hw) (by decide)⟩
                      have ts : ρ (.tmp 5) = .pointer (some ⟨nb, 0, none⟩) := hfr 5 (by kernel_rfl)
                      have k0 := cellN_later hC y0
                      have k1 := cellN_later hC y1
                      simp [go_sem, ts, k0, k1]
                      exact ⟨Below.refl _ _, rfl⟩
                    | 1, _, ho, hf, hg, hfr, hdep =>
                      simp only [gTA, gCZ, gCS, gSI] at ho
                      subst ho
                      refine ⟨fun _ => ?_, fun hw => absurd (show true = false from hw) (by decide)⟩
                      have ts : ρ (.tmp 1) = .slice (some ⟨tb1, to1, none⟩) T.length tc := hfr 1 (by kernel_rfl)
                      simp [go_sem, ts]
                      exact ⟨Below.refl _ _, rfl⟩
                    | 2, _, ho, hf, hg, hfr, hdep =>
                      simp only [gTA, gCZ, gCS, gSI] at ho
                      subst ho
                      refine ⟨fun _ => ?_, fun hw => absurd (show true = false from hw) (by decide)⟩
                      have ts : ρ (.tmp 14) = .int .i64 (x : Int) := hfr 14 (by kernel_rfl)
                      simp [go_sem, ts]
                      exact ⟨Below.refl _ _, rfl⟩
                    | 3, _, ho, hf, hg, hfr, hdep =>
                      simp only [gTA, gCZ, gCS, gSI] at ho
                      subst ho
                      refine ⟨fun _ => ?_, fun hw => absurd (show true = false from hw) (by decide)⟩
                      have ts : ρ (.tmp 3) = .int .i64 (e : Int) := hfr 3 (by kernel_rfl)
                      simp [go_sem, ts]
                      exact ⟨Below.refl _ _, rfl⟩
                    | 4, _, ho, hf, hg, hfr, hdep =>
                      simp only [gTA, gCZ, gCS, gSI] at ho
                      subst ho
                      refine ⟨fun _ => ?_, fun hw => absurd (show true = false from hw) (by decide)⟩
                      have ts : ρ (.tmp 1) = .slice (some ⟨tb1, to1, none⟩) T.length tc := hfr 1 (by kernel_rfl)
                      simp [go_sem, ts]
                      exact ⟨Below.refl _ _, rfl⟩
                    | 5, _, ho, hf, hg, hfr, hdep =>
                      simp only [gTA, gCZ, gCS, gSI] at ho
                      subst ho
                      refine ⟨fun _ => ?_, fun hw => absurd (show true = false from hw) (by decide)⟩
                      have ts : ρ (.tmp 12) = .int .i64 (q : Int) := hfr 12 (by kernel_rfl)
                      simp [go_sem, ts]
                      exact ⟨Below.refl _ _, rfl⟩
                    | 6, _, ho, hf, hg, hfr, hdep =>
                      simp only [gTA, gCZ, gCS, gSI] at ho
                      subst ho
                      refine ⟨fun _ => ?_, fun hw => absurd (show true = false from hw) (by decide)⟩
                      have d0 : ρ (.tmp 66) = .slice (some ⟨tb1, to1, none⟩) T.length tc := hdep 4 66 (by kernel_rfl) (by kernel_rfl)
                      have d1 : ρ (.tmp 67) = .int .i64 (q : Int) := hdep 5 67 (by kernel_rfl) (by kernel_rfl)
                      simp [go_sem, d0, d1, hlt]
                      exact ⟨Below.refl _ _, rfl⟩
                    | 7, _, ho, hf, hg, hfr, hdep =>
                      simp only [gTA, gCZ, gCS, gSI] at ho
                      subst ho
                      refine ⟨fun _ => ?_, fun hw => absurd (show true = false from hw) (by decide)⟩
                      have cc := cellN_later hC c1
                      have d0 : ρ (.tmp 68) = .pointer (some ⟨tb1, to1 + q, none⟩) := hdep 6 68 (by kernel_rfl) (by kernel_rfl)
                      simp [go_sem, d0, cc]
                      exact ⟨Below.refl _ _, rfl⟩
                    | 8, _, ho, hf, hg, hfr, hdep =>
                      simp only [gTA, gCZ, gCS, gSI] at ho
                      subst ho
                      refine ⟨fun _ => ?_, fun hw => absurd (show true = false from hw) (by decide)⟩
                      have t0 : ρ (.tmp 62) = .agg #[.int .i64 m, .slice (some ⟨nb1, no1, none⟩) A.length ac] := hdep 0 62 (by kernel_rfl) (by kernel_rfl)
                      have t1 : ρ (.tmp 63) = .slice (some ⟨tb1, to1, none⟩) T.length tc := hdep 1 63 (by kernel_rfl) (by kernel_rfl)
                      have t2 : ρ (.tmp 64) = .int .i64 (x : Int) := hdep 2 64 (by kernel_rfl) (by kernel_rfl)
                      have t3 : ρ (.tmp 65) = .int .i64 (e : Int) := hdep 3 65 (by kernel_rfl) (by kernel_rfl)
                      have t4 : ρ (.tmp 69) = .int .i64 (j : Int) := hdep 7 69 (by kernel_rfl) (by kernel_rfl)
                      simp [go_sem, t0, t1, t2, t3, t4, hfs]
                      exact ⟨rfl, (SE.out w' hC).mono fun e' w'' hh => seV_of hh hC.size⟩
                    | 9, _, ho, hf, hg, hfr, hdep =>
                      simp only [gTA, gCZ, gCS, gSI] at ho
                      subst ho
                      refine ⟨fun _ => ?_, fun hw => absurd (show true = false from hw) (by decide)⟩
                      have t0 : SeV W1.heap.size r w' (ρ (.tmp 70)) := hdep 8 70 (by kernel_rfl) (by kernel_rfl)
                      obtain ⟨d9, c9, q0, q1⟩ := t0
                      simp [go_sem, q0]
                      exact ⟨Below.refl _ _, d9, c9, rfl, q1⟩
                    | 10, _, ho, hf, hg, hfr, hdep =>
                      simp only [gTA, gCZ, gCS, gSI] at ho
                      subst ho
                      refine ⟨fun _ => ?_, fun hw => absurd (show true = false from hw) (by decide)⟩
                      have t0 : SeV W1.heap.size r w' (ρ (.tmp 61)) := hdep 9 61 (by kernel_rfl) (by kernel_rfl)
                      obtain ⟨d9, c9, q0, q1⟩ := t0
                      simp [go_sem, q0]
                      exact ⟨Below.refl _ _, d9, c9, rfl, q1⟩
                    | 11, _, ho, hf, hg, hfr, hdep =>
                      simp only [gTA, gCZ, gCS, gSI] at ho
                      subst ho
                      refine ⟨fun _ => ?_, fun hw => absurd (show true = false from hw) (by decide)⟩
                      have t0 : SeV W1.heap.size r w' (ρ (.tmp 61)) := hdep 9 61 (by kernel_rfl) (by kernel_rfl)
                      obtain ⟨d9, c9, q0, q1⟩ := t0
                      simp [go_sem, q0]
                      exact ⟨Below.refl _ _, rfl⟩
                    | 12, _, ho, hf, hg, hfr, hdep =>
                      simp only [gTA, gCZ, gCS, gSI] at ho
                      subst ho
                      refine ⟨fun _ => ?_, fun hw => absurd (show true = false from hw) (by decide)⟩
                      have t0 : SlS W1.heap.size (r.getD []) w' (ρ (.tmp 71)) := hdep 10 71 (by kernel_rfl) (by kernel_rfl)
                      obtain ⟨d9, c9, q0, q1⟩ := t0
                      simp [go_sem, q0]
                      exact ⟨Below.refl _ _, d9, c9, rfl, q1⟩
                    | 13, _, ho, hf, hg, hfr, hdep =>
                      simp only [gTA, gCZ, gCS, gSI] at ho
                      subst ho
                      refine ⟨fun _ => ?_, fun hw => absurd (show true = false from hw) (by decide)⟩
                      have t0 : ρ (.tmp 72) = .bool r.isSome := hdep 11 72 (by kernel_rfl) (by kernel_rfl)
                      simp [go_sem, t0]
                      exact ⟨Below.refl _ _, rfl⟩
                    | n + 14, _, ho, _, _, _, _ => simp at ho
                  · intro d_ i o ρ w' hm ho h0 hf hg hC hcs hfs hfr hdep
                    exact absurd hm (by simp)
                  · intro U2 W2 hC2 hS
                    obtain ⟨d2, c2, e12, D2⟩ : SlS W1.heap.size (r.getD []) W2 (U2 12) := hS 12 (by decide) (by intro h; cases h)
                    have e13 : U2 13 = .bool r.isSome := hS 13 (by decide) (by intro h; cases h)
                    simp only [puts, e12, e13]
                    simp only [Act.put, List.setIfInBounds_toArray, List.set_cons_zero, List.set_cons_succ]
                    clear hS e12 e13
                    have c3 := cellN_later hC2 c1
                    have X3 := hiddenN (HX.out.below hC2)
                    have x3 := X3.out.cell (k := 0) rfl
                    simp only [List.getElem_toArray, List.getElem_cons_zero] at x3
                    have B2R := hiddenN (B1R.out.trans (hC2.mono B1R.out.size))
                    have B2W := hiddenN (B1W.out.trans (hC2.mono B1W.out.size))
                    have DD := hiddenN D2
                    have hw12 : w.heap.size ≤ W1.heap.size := B1W.out.size
                    have hw2 : w.heap.size ≤ W2.heap.size := B2W.out.size
                    clear SE D2 hC2 HX x0 x1 y0 y1 c1
                    cases r with
                    | none =>
                      have TG := hiddenN (GP.out rfl)
                      clear GP GS
                      go_wp2
                      go_roundg (T.length - (q + 1))
                      case measure => omega
                      case rel => exact ⟨q + 1, by omega, rfl, by go_num, TG.out, B2R.out⟩
                    | some Q =>
                      have TG := hiddenN (GS.out Q rfl)
                      clear GP GS
                      have hQl := PL.out _ TG.out
                      simp only [List.length_cons] at hQl
                      rw [show (some Q).getD [] = Q from rfl] at DD
                      go_upto_region 14 with fail
                      refine wp_region_gen [] (fun d_ i u z => match i with
                          | 0 => z = .slice none 0 0
                          | 1 => z = .slice (some ⟨tb1, to1, none⟩) T.length tc
                          | 2 => z = .int .i64 (q : Int)
                          | 3 => z = .pointer (some ⟨tb1, to1 + q, none⟩)
                          | 4 => z = .int .i64 (j : Int)
                          | 5 => z = .pointer (some ⟨xb, 0, none⟩)
                          | 6 => z = .int .i64 (x : Int)
                          | 7 => z = .int .i64 (v : Int)
                          | 8 => z = .bool true
                          | 9 => z = .agg #[.int .i64 (j : Int), .bool true]
                          | 10 => ElS j true u z
                          | 11 => SlS W2.heap.size [(j, true)] u z
                          | 12 => SlS W2.heap.size [(j, true)] u z
                          | _ => True) (fun d_ u => Below W2.heap.size W2 u) (by kernel_rfl) (by kernel_rfl) (by kernel_rfl) ?_ ?_ ?_ ?_ ?_ ?_ (by kernel_rfl)
                      · intro d_ i w v w' h hb
                        match i, h with
                        | 0, h => exact h
                        | 1, h => exact h
                        | 2, h => exact h
                        | 3, h => exact h
                        | 4, h => exact h
                        | 5, h => exact h
                        | 6, h => exact h
                        | 7, h => exact h
                        | 8, h => exact h
                        | 9, h => exact h
                        | 10, h => exact h.later hb
                        | 11, h => exact h.later hb
                        | 12, h => exact h.later hb
                        | _ + 13, _ => trivial
                      · intro d_ u u' h hb
                        exact h.trans (hb.mono h.size)
                      · exact Below.refl _ _
                      · intro d_ i o ρ w' hm ho hf hg hC hcs hfs hfr hdep
                        match i, hm, ho, hf, hg, hfr, hdep with
                        | 0, _, ho, hf, hg, hfr, hdep =>
                          simp only [gTA, gCZ, gSI] at ho
                          subst ho
                          refine ⟨fun _ => ?_, fun hw => absurd (show true = false from hw) (by decide)⟩
                          have ts : ρ (.tmp 17) = .slice none 0 0 := hfr 17 (by kernel_rfl)
                          simp [go_sem, ts]
                          exact ⟨Below.refl _ _, rfl⟩
                        | 1, _, ho, hf, hg, hfr, hdep =>
                          simp only [gTA, gCZ, gCS, gSI] at ho
                          subst ho
                          refine ⟨fun _ => ?_, fun hw => absurd (show true = false from hw) (by decide)⟩
                          have ts : ρ (.tmp 1) = .slice (some ⟨tb1, to1, none⟩) T.length tc := hfr 1 (by kernel_rfl)
                          simp [go_sem, ts]
                          exact ⟨Below.refl _ _, rfl⟩
                        | 2, _, ho, hf, hg, hfr, hdep =>
                          simp only [gTA, gCZ, gCS, gSI] at ho
                          subst ho
                          refine ⟨fun _ => ?_, fun hw => absurd (show true = false from hw) (by decide)⟩
                          have ts : ρ (.tmp 12) = .int .i64 (q : Int) := hfr 12 (by kernel_rfl)
                          simp [go_sem, ts]
                          exact ⟨Below.refl _ _, rfl⟩
                        | 3, _, ho, hf, hg, hfr, hdep =>
                          simp only [gTA, gCZ, gCS, gSI] at ho
                          subst ho
                          refine ⟨fun _ => ?_, fun hw => absurd (show true = false from hw) (by decide)⟩
                          have d0 : ρ (.tmp 75) = .slice (some ⟨tb1, to1, none⟩) T.length tc := hdep 1 75 (by kernel_rfl) (by kernel_rfl)
                          have d1 : ρ (.tmp 76) = .int .i64 (q : Int) := hdep 2 76 (by kernel_rfl) (by kernel_rfl)
                          simp [go_sem, d0, d1, hlt]
                          exact ⟨Below.refl _ _, rfl⟩
                        | 4, _, ho, hf, hg, hfr, hdep =>
                          simp only [gTA, gCZ, gCS, gSI] at ho
                          subst ho
                          refine ⟨fun _ => ?_, fun hw => absurd (show true = false from hw) (by decide)⟩
                          have cc := cellN_later hC c3
                          have d0 : ρ (.tmp 77) = .pointer (some ⟨tb1, to1 + q, none⟩) := hdep 3 77 (by kernel_rfl) (by kernel_rfl)
                          simp [go_sem, d0, cc]
                          exact ⟨Below.refl _ _, rfl⟩
                        | 5, _, ho, hf, hg, hfr, hdep =>
                          simp only [gTA, gCZ, gCS, gSI] at ho
                          subst ho
                          refine ⟨fun _ => ?_, fun hw => absurd (show true = false from hw) (by decide)⟩
                          have ts : ρ (.tmp 13) = .pointer (some ⟨xb, 0, none⟩) := hfr 13 (by kernel_rfl)
                          simp [go_sem, ts]
                          exact ⟨Below.refl _ _, rfl⟩
                        | 6, _, ho, hf, hg, hfr, hdep =>
                          simp only [gTA, gCZ, gCS, gSI] at ho
                          subst ho
                          refine ⟨fun _ => ?_, fun hw => absurd (show true = false from hw) (by decide)⟩
                          have cc := cellN_later hC x3
                          have d0 : ρ (.tmp 79) = .pointer (some ⟨xb, 0, none⟩) := hdep 5 79 (by kernel_rfl) (by kernel_rfl)
                          simp [go_sem, d0, cc]
                          exact ⟨Below.refl _ _, rfl⟩
                        | 7, _, ho, hf, hg, hfr, hdep =>
                          simp only [gTA, gCZ, gCS, gSI] at ho
                          subst ho
                          refine ⟨fun _ => ?_, fun hw => absurd (show true = false from hw) (by decide)⟩
                          have ts : ρ (.tmp 2) = .int .i64 (v : Int) := hfr 2 (by kernel_rfl)
                          simp [go_sem, ts]
                          exact ⟨Below.refl _ _, rfl⟩
                        | 8, _, ho, hf, hg, hfr, hdep =>
                          simp only [gTA, gCZ, gCS, gSI] at ho
                          subst ho
                          refine ⟨fun _ => ?_, fun hw => absurd (show true = false from hw) (by decide)⟩
                          have t0 : ρ (.tmp 80) = .int .i64 (x : Int) := hdep 6 80 (by kernel_rfl) (by kernel_rfl)
                          have t1 : ρ (.tmp 81) = .int .i64 (v : Int) := hdep 7 81 (by kernel_rfl) (by kernel_rfl)
                          have hq : ((x : Int) != (v : Int)) = true := by have := HXV.out; simp; omega
                          simp [go_sem, t0, t1, hq]
                          exact ⟨Below.refl _ _, rfl⟩
                        | 9, _, ho, hf, hg, hfr, hdep =>
                          simp only [gTA, gCZ, gCS, gSI] at ho
                          subst ho
                          refine ⟨fun _ => ?_, fun hw => absurd (show true = false from hw) (by decide)⟩
                          have d0 : ρ (.tmp 78) = .int .i64 (j : Int) := hdep 4 78 (by kernel_rfl) (by kernel_rfl)
                          have d1 : ρ (.tmp 82) = .bool true := hdep 8 82 (by kernel_rfl) (by kernel_rfl)
                          simp [go_sem, d0, d1]
                          exact ⟨Below.refl _ _, rfl⟩
                        | 10, _, ho, hf, hg, hfr, hdep =>
                          simp only [gTA, gCZ, gCS, gSI] at ho
                          subst ho
                          refine ⟨fun _ => ?_, fun hw => absurd (show true = false from hw) (by decide)⟩
                          have t0 : ρ (.tmp 83) = .agg #[.int .i64 (j : Int), .bool true] := hdep 9 83 (by kernel_rfl) (by kernel_rfl)
                          simp [go_sem, t0]
                          exact ⟨(Below.refl _ _).alloc (Nat.le_refl _) _, w'.heap.size, rfl, (blkA_new 46 w' #[.int .i64 (j : Int), .bool true]).cell rfl, (blkA_new 46 w' #[.int .i64 (j : Int), .bool true]).cell rfl⟩
                        | 11, _, ho, hf, hg, hfr, hdep =>
                          simp only [gTA, gCZ, gCS, gSI] at ho
                          subst ho
                          refine ⟨fun _ => ?_, fun hw => absurd (show true = false from hw) (by decide)⟩
                          have t0_ : ρ (.tmp 74) = .slice none 0 0 := hdep 0 74 (by kernel_rfl) (by kernel_rfl)
                          have t0 : ElS j true w' (ρ (.tmp 84)) := hdep 10 84 (by kernel_rfl) (by kernel_rfl)
                          exact step_appS0 (.tmp 74) (.tmp 84) rfl t0_ t0 hC.size
                        | 12, _, ho, hf, hg, hfr, hdep =>
                          simp only [gTA, gCZ, gCS, gSI] at ho
                          subst ho
                          refine ⟨fun _ => ?_, fun hw => absurd (show true = false from hw) (by decide)⟩
                          have t0 : SlS W2.heap.size [(j, true)] w' (ρ (.tmp 85)) := hdep 11 85 (by kernel_rfl) (by kernel_rfl)
                          obtain ⟨d9, c9, q0, q1⟩ := t0
                          simp [go_sem, q0]
                          exact ⟨Below.refl _ _, d9, c9, rfl, q1⟩
                        | n + 13, _, ho, _, _, _, _ => simp at ho
                      · intro d_ i o ρ w' hm ho h0 hf hg hC hcs hfs hfr hdep
                        exact absurd hm (by simp)
                      · intro U3 W3 hC3 hS
                        obtain ⟨d3, k3, e12, D3⟩ : SlS W2.heap.size [(j, true)] W3 (U3 12) := hS 12 (by decide) (by intro h; cases h)
                        simp only [puts, e12]
                        simp only [Act.put, List.setIfInBounds_toArray, List.set_cons_zero, List.set_cons_succ]
                        clear hS e12
                        have AQ := hiddenN (DD.out.at.below hC3)
                        have C3 := hiddenN D3
                        have B3 := hiddenN hC3
                        have hs3 : W2.heap.size ≤ W3.heap.size := hC3.size
                        clear D3 hC3 c3 x3
                        go_upto_region 16 with (at_builtin; refine wpList_appS rfl _ _ rfl W2.heap.size d3 k3 [(j, true)] rfl C3.out d2 c2 Q rfl DD.out.none AQ.out (by simp; omega) hs3 (Q.length + 1) ([(j, true)] ++ Q) (Nat.add_comm 1 _) rfl ?_; intro d4 c4 W4 hd4 b4; have C4 := hiddenN hd4; have B4 := hiddenN (B3.out.trans b4); clear hd4 b4)
                        rw [← HRE.out, TG.out]
                        exact ⟨d4, c4, rfl, C4.out.mono hw2, B2W.out.trans (B4.out.mono hw2)⟩
                · have hcr : crossF A j v = none := by unfold crossF; rw [if_neg hf, if_neg ht]
                  have TG : Hid (tryF A (fun x j => dfsF A T e k x (some j)) v came (T.drop (q + 1)) = tryF A (fun x j => dfsF A T e k x (some j)) v came T) := by show _ = _; rw [← TR.out, tryF_none hcr]
                  clear hcr hc TR CM HD IH HX
                  generalize fN A j = pf at *
                  generalize tN A j = pt at *
                  have hf' : ((pf : Int) != (v : Int)) = true := by simp; omega
                  have ht' : ((pt : Int) != (v : Int)) = true := by simp; omega
                  clear hf ht
                  go_wp2
                  go_roundg (T.length - (q + 1))
                  case measure => omega
                  case rel => exact ⟨q + 1, by omega, rfl, by go_num, TG.out, B1R.out⟩
        · have ek : q = T.length := by omega
          have hki : ¬ (q : Int) < (T.length : Int) := by omega
          rw [ek, List.drop_length] at htr
          have TG : Hid (tryF A (fun x j => dfsF A T e k x (some j)) v came T = none) := htr.symm
          clear ek htr IH HD
          go_wp2
          rw [← HRE.out, TG.out]
          exact ⟨none, 0, rfl, CapS.nil _ _, BW.out⟩
set_option maxRecDepth 100000 in
set_option maxHeartbeats 16000000 in
theorem rpath_any (n : NN) (a : Option Addr) (c : Nat) (s t : Int) (w : World) (h : AtN w a n.arcs) (hl : n.arcs.length ≤ 4611686018427387904) : Calls Try.prog 30 #[.agg #[.int .i64 n.nodes, .slice a n.arcs.length c], .int .i64 s, .int .i64 t] w (PatE (pathP n s t) w) := by
  have b0 := (Below.refl w.heap.size w).alloc (Nat.le_refl _) (.cells #[.int .i64 n.nodes, .slice a n.arcs.length c] 24)
  have X0 := hiddenN (blkA_new 24 w #[.int .i64 n.nodes, .slice a n.arcs.length c])
  have B0 := hiddenN b0
  have HA := hiddenN (h.below b0)
  have OF := hiddenN (rofF_any n a c _ (h.below b0) hl)
  have y0 := X0.out.cell (k := 0) rfl
  have y1 := X0.out.cell (k := 1) rfl
  simp only [List.getElem_toArray, List.getElem_cons_zero, List.getElem_cons_succ] at y0 y1
  clear b0 h
  unfold OfFE at OF
  by_cases hc : checkN n = 0
  · simp only [if_pos hc] at OF
    have hS := check_sound hc
    have TA := hiddenN (tree_arcs hS)
    have TL := hiddenN (tree_lt hS)
    have hTl : (treF n.arcs n.arcs.length).length ≤ 1000 := by have := treF_len (A := n.arcs) (k := n.arcs.length); have := hS.most; omega
    have hN := hS.nodes
    have PE : Hid (pathP n s t = if nodB n.nodes s = true ∧ nodB n.nodes t = true then pathD n.arcs (treF n.arcs n.arcs.length) n.nodes.toNat s.toNat t.toNat else ([], 100)) := by
      show _ = _
      unfold pathP
      rw [if_pos hc]
    rw [PE.out]
    clear PE hS hc
    obtain ⟨nn, A⟩ := n
    simp only at *
    obtain ⟨N, rfl⟩ : ∃ k : Nat, nn = (k : Int) := ⟨nn.toNat, by omega⟩
    simp only [Int.toNat_natCast] at *
    obtain ⟨T, hT⟩ : ∃ q, treF A A.length = q := ⟨_, rfl⟩
    obtain ⟨H, hH⟩ : ∃ q, homF A A.length = q := ⟨_, rfl⟩
    have DH : Hid (∀ p r : Nat, (dfsF A T r (N + 1) p none ≠ none) ↔ H p = H r) := fun p r => by rw [← hT, ← hH]; exact dfs_home (fun j hj => (TL.out j hj).1) (fun j hj => (TL.out j hj).2) p r
    have DP : Hid (∀ p, DeepF A T (N + 1) p none) := fun p => by rw [← hT]; exact deep_all (fun j hj => (TL.out j hj).1) (fun j hj => (TL.out j hj).2) p none
    rw [hT] at OF TA hTl ⊢
    rw [hH] at OF
    clear hT hH TL
    obtain ⟨RE, hRE⟩ : ∃ R, PatE (if nodB (N : Int) s = true ∧ nodB (N : Int) t = true then pathD A T N s.toNat t.toNat else ([], 100)) w = R := ⟨_, rfl⟩
    rw [hRE]
    have HRE := hiddenN hRE
    clear hRE
    go_enter Try.func30, Try.ntmps30
    go_upto_region 1 with fail
    generalize w.alloc (.cells #[.int .i64 (N : Int), .slice a A.length c] 24) = W0 at *
    go_upto_region 2 with (go_at_call 28; (with_reducible refine OF.out.mono ?_); rintro e W1 ⟨d1, c1, d2, c2, rfl, q1, q2, -, b1⟩; have T1 := hiddenN q1; have H1 := hiddenN q2; have L1 := hiddenN (B0.out.trans (b1.mono B0.out.size)); have X1 := hiddenN (X0.out.below b1); have A1 := hiddenN (HA.out.below b1); clear q1 q2 b1 y0 y1)
    have b2 := (Below.refl W1.heap.size W1).alloc (Nat.le_refl _) (.cells #[.slice d1 (intsF T).length c1, .slice d2 (rowF N H).length c2] 57)
    have F2 := hiddenN (blkA_new 57 W1 #[.slice d1 (intsF T).length c1, .slice d2 (rowF N H).length c2])
    have L2 := hiddenN (L1.out.trans (b2.mono L1.out.size))
    have X2 := hiddenN (X1.out.below b2)
    have A2 := hiddenN (A1.out.below b2)
    have T2 := hiddenN (T1.out.at.below b2)
    have H2 := hiddenN (H1.out.at.below b2)
    obtain ⟨fb, hfb⟩ : ∃ q, W1.heap.size = q := ⟨_, rfl⟩
    rw [hfb] at F2 ⊢
    rw [intsF_len, rowF_len] at F2 ⊢
    rw [intsF_len, rowF_len] at L2 X2 A2 T2 H2
    generalize W1.alloc (.cells #[.slice d1 T.length c1, .slice d2 N c2] 57) = W2 at *
    clear b2 T1 H1 L1 X1 A1 hfb OF X0 HA B0
    have y0 := X2.out.cell (k := 0) rfl
    simp only [List.getElem_toArray, List.getElem_cons_zero] at y0
    have bad : ∀ V, V = W2 → (nodB (N : Int) s = true ∧ nodB (N : Int) t = true → False) → RE (.returned (.tuple #[.slice none 0 0, .int .i64 100])) V := fun V hV hn => by
      rw [hV, ← HRE.out, if_neg hn]
      exact pat_none _ _ _ L2.out
    have BAD := hiddenN bad
    clear bad
    by_cases h1 : s < 0
    · have HN : Hid (nodB (N : Int) s = true ∧ nodB (N : Int) t = true → False) := fun q => by have := q.1; unfold nodB at this; simp at this; omega
      clear DH DP TA HRE
      go_wp2
      exact BAD.out _ rfl HN.out
    · by_cases h2 : s < (N : Int)
      · by_cases h3 : t < 0
        · have HN : Hid (nodB (N : Int) s = true ∧ nodB (N : Int) t = true → False) := fun q => by have := q.2; unfold nodB at this; simp at this; omega
          clear DH DP TA HRE
          go_wp2
          exact BAD.out _ rfl HN.out
        · by_cases h4 : t < (N : Int)
          · have HY : Hid (nodB (N : Int) s = true ∧ nodB (N : Int) t = true) := by
              show _ ∧ _
              unfold nodB
              simp
              omega
            rw [if_pos HY.out] at HRE
            obtain ⟨p, rfl⟩ : ∃ k : Nat, s = (k : Int) := ⟨s.toNat, by omega⟩
            obtain ⟨r, rfl⟩ : ∃ k : Nat, t = (k : Int) := ⟨t.toNat, by omega⟩
            simp only [Int.toNat_natCast] at HRE
            clear BAD HY
            have z1 := X2.out.cell (k := 1) rfl
            have f0 := F2.out.cell (k := 0) rfl
            simp only [List.getElem_toArray, List.getElem_cons_zero, List.getElem_cons_succ] at z1 f0
            have SE := hiddenN (search_any (e := r) (aa := a) (ta := d1) (ac := c) (tc := c1) (N : Int) TA.out hTl (N + 1) p none W2 (DP.out p) A2.out T2.out (by omega))
            rw [show cmI none = (-1 : Int) from rfl] at SE
            unfold SeaE at SE
            have PD : Hid (pathD A T N p r = match dfsF A T r (N + 1) p none with | some P => (P, (0 : Int)) | none => ([], 110)) := rfl
            have h3' : ¬ (r : Int) < 0 := by omega
            have h1' : ¬ (p : Int) < 0 := by omega
            cases hdf : dfsF A T r (N + 1) p none with
            | none =>
              rw [hdf] at SE PD
              clear hdf DH DP TA A2 T2 H2 F2
              go_wp2_with (go_at_call 44; (with_reducible refine SE.out.mono ?_); rintro e W6 ⟨d6, c6, rfl, q1, q2⟩; have L6 := hiddenN (L2.out.trans (q2.mono L2.out.size)); clear q1 q2)
              rw [← HRE.out, PD.out]
              exact pat_none _ _ _ L6.out
            | some P =>
              rw [hdf] at SE PD
              clear hdf DH DP TA A2 T2 H2 F2
              go_wp2_with (go_at_call 44; (with_reducible refine SE.out.mono ?_); rintro e W6 ⟨d6, c6, rfl, q1, q2⟩; have C6 := hiddenN q1; have L6 := hiddenN (L2.out.trans (q2.mono L2.out.size)); clear q1 q2)
              rw [← HRE.out, PD.out]
              exact ⟨d6, c6, rfl, C6.out.mono L2.out.size, L6.out⟩
          · have HN : Hid (nodB (N : Int) s = true ∧ nodB (N : Int) t = true → False) := fun q => by have := q.2; unfold nodB at this; simp at this; omega
            clear DH DP TA HRE
            go_wp2
            exact BAD.out _ rfl HN.out
      · have HN : Hid (nodB (N : Int) s = true ∧ nodB (N : Int) t = true → False) := fun q => by have := q.1; unfold nodB at this; simp at this; omega
        clear DH DP TA HRE
        go_wp2
        exact BAD.out _ rfl HN.out
  · have PE : Hid (pathP n s t = ([], checkN n)) := by show _ = _; unfold pathP; rw [if_neg hc]
    rw [PE.out]
    simp only [if_neg hc] at OF
    have hcb : (checkN n != 0) = true := by simpa using hc
    clear hc PE HA
    generalize checkN n = cd at *
    generalize n.arcs.length = al at *
    generalize n.nodes = m at *
    obtain ⟨RE, hRE⟩ : ∃ R, PatE ([], cd) w = R := ⟨_, rfl⟩
    rw [hRE]
    have HRE := hiddenN hRE
    clear hRE
    go_enter Try.func30, Try.ntmps30
    go_upto_region 1 with fail
    generalize w.alloc (.cells #[.int .i64 m, .slice a al c] 24) = W0 at *
    go_wp2_with (go_at_call 28; (with_reducible refine OF.out.mono ?_); rintro e W1 ⟨rfl, b1⟩; have L1 := hiddenN (B0.out.trans (b1.mono B0.out.size)); clear b1)
    rw [← HRE.out]
    exact pat_none _ _ _ (L1.out.alloc L1.out.size _)
theorem pathP_len (n : NN) (s t : Int) : (pathP n s t).1.length ≤ 33 := by
  unfold pathP
  split
  · rename_i hc
    have hS := check_sound hc
    split
    · unfold pathD
      split
      · rename_i P hP
        have h := dfsF_sound hP
        have := deep_all (fun j hj => (tree_lt hS j hj).1) (fun j hj => (tree_lt hS j hj).2) s.toNat none P t.toNat h.1 h.2
        have := hS.nodes
        show P.length ≤ 33
        omega
      · exact Nat.zero_le _
    · exact Nat.zero_le _
  · exact Nat.zero_le _
end Go.Proofs.Ytecmkienoofccaa

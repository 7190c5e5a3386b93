/- Texts of one chain, laid one behind the other. -/
import Derived.Test.YtdjplmlfcolklaaPartCodeChecks15
import Derived.Test.YtdjplmlfcolklaaPartCodeChecks20
namespace Go.Proofs.Ytdjplmlfcolklaa
open Go.Lib Go.ChangeShapes Go.WideShapes Go.ChangeAt Go.RowKit
abbrev RdL := RdC (List Int)
def byteL : RdL := fun D j => match byteR D j with | .error x => .error x | .ok p => .ok ([(p.1 : Int)], p.2)
def cntL : RdL := fun D j => match cntR D j with | .error x => .error x | .ok p => .ok ([p.1], p.2)
def intsL (most : Nat) : RdL := listR most intR
def chaR (D : List UInt8) : List RdL → Nat → Except (Int × Nat) (List (List Int) × Nat)
  | [], j => .ok ([], j)
  | r :: rs, j =>
    match r D j with
    | .error x => .error x
    | .ok p =>
      match chaR D rs p.2 with
      | .error x => .error x
      | .ok q => .ok (p.1 :: q.1, q.2)
theorem cha_snoc {D : List UInt8} {r : RdL} : ∀ {rs : List RdL} {j k : Nat} {xs : List (List Int)}, chaR D rs j = .ok (xs, k) → chaR D (rs ++ [r]) j = match r D k with | .error x => .error x | .ok p => .ok (xs ++ [p.1], p.2)
  | [], j, k, xs, h => by
    cases h
    simp only [List.nil_append, chaR]
  | s :: rs, j, k, xs, h => by
    unfold chaR at h
    rw [List.cons_append]
    unfold chaR
    cases hs : s D j with
    | error x => rw [hs] at h; cases h
    | ok p =>
      rw [hs] at h
      simp only at h ⊢
      cases hr : chaR D rs p.2 with
      | error x => rw [hr] at h; cases h
      | ok q =>
        rw [hr] at h
        simp only [Except.ok.injEq, Prod.mk.injEq] at h
        rw [cha_snoc hr, h.2]
        cases r D k with
        | error x => rfl
        | ok z => simp only [← h.1, List.cons_append]
theorem cha_err {D : List UInt8} {x : Int × Nat} : ∀ {rs : List RdL} {j : Nat}, chaR D rs j = .error x → ∀ ts, chaR D (rs ++ ts) j = .error x
  | [], j, h, ts => by cases h
  | s :: rs, j, h, ts => by
    unfold chaR at h
    rw [List.cons_append]
    unfold chaR
    cases hs : s D j with
    | error y => rw [hs] at h; exact h
    | ok p =>
      rw [hs] at h
      simp only at h ⊢
      cases hr : chaR D rs p.2 with
      | error y => rw [hr] at h; cases h; rw [cha_err hr]
      | ok q => rw [hr] at h; cases h
theorem cha_len {D : List UInt8} : ∀ {rs : List RdL} {j k : Nat} {xs : List (List Int)}, chaR D rs j = .ok (xs, k) → xs.length = rs.length
  | [], j, k, xs, h => by cases h; rfl
  | s :: rs, j, k, xs, h => by
    unfold chaR at h
    cases hs : s D j with
    | error y => rw [hs] at h; cases h
    | ok p =>
      rw [hs] at h
      simp only at h
      cases hr : chaR D rs p.2 with
      | error y => rw [hr] at h; cases h
      | ok q => rw [hr] at h; cases h; rw [List.length_cons, List.length_cons, cha_len hr]
/-- What the q-th reading gives. -/
def valR (D : List UInt8) (rs : List RdL) (j q : Nat) : List Int := match chaR D (rs.take (q + 1)) j with | .error _ => [] | .ok p => p.1.getD q []
/-- The first so many have been read, and nothing else is changed. -/
def ChaC (R : Nat) (D : List UInt8) (j : Nat) (W : World) (rs : List RdL) (M : Nat → Nat) (d : Nat → Bool) (u : World) : Prop :=
  ∃ i xs k, i ≤ rs.length ∧ (∀ q, q < rs.length → (d (M q) = true ↔ q < i)) ∧ chaR D (rs.take i) j = .ok (xs, k) ∧ RdA R D k W u
def ChaZ (R : Nat) (D : List UInt8) (j : Nat) (W : World) (rs : List RdL) (c : List PanicEntry) (u : World) : Prop := ∃ x, c = fltP x.1 x.2 ∧ chaR D rs j = .error x ∧ RdZ R D W x.1 x.2 u
theorem ChaC.later {R D j W rs M d u u'} (h : ChaC R D j W rs M d u) (hb : Below u.heap.size u u') : ChaC R D j W rs M d u' := by
  obtain ⟨i, xs, k, h1, h2, h3, h4⟩ := h
  exact ⟨i, xs, k, h1, h2, h3, h4.below hb⟩
theorem ChaC.start {R D j W u rs M} (h : RdA R D j W u) : ChaC R D j W rs M (fun _ => false) u :=
  ⟨0, [], j, Nat.zero_le _, fun q _ => ⟨fun e => absurd (show false = true from e) (by decide), fun e => absurd e (Nat.not_lt_zero _)⟩, rfl, h⟩
/-- Another mark than these is done; the block that it turns is not the reader's. -/
theorem ChaC.put {R D j W rs M d u u' s K} (h : ChaC R D j W rs M d u) (hs : ∀ q, q < rs.length → M q ≠ s) (hb : But K u u') (hK : W.heap.size ≤ K) (hR : R ≠ K) : ChaC R D j W rs M (doneAt d s) u' := by
  obtain ⟨i, xs, k, h1, h2, h3, h4⟩ := h
  refine ⟨i, xs, k, h1, fun q hq => by rw [doneC_ne d (hs q hq)]; exact h2 q hq, h3, h4.box.keep (hb.block R h4.box.lt hR), ⟨hb.os.trans h4.but.os, hb.tape.trans h4.but.tape, hb.output.trans h4.but.output, Nat.le_trans h4.but.size hb.size, fun b hb1 hb2 => (hb.block b (Nat.lt_of_lt_of_le hb1 h4.but.size) (by omega)).trans (h4.but.block b hb1 hb2)⟩, h4.le⟩
theorem ChaC.all {R D j W rs M d u} (h : ChaC R D j W rs M d u) (hd : ∀ q, q < rs.length → d (M q) = true) : ∃ xs k, chaR D rs j = .ok (xs, k) ∧ RdA R D k W u ∧ ∀ q, q < rs.length → xs.getD q [] = valR D rs j q := by
  obtain ⟨i, xs, k, h1, h2, h3, h4⟩ := h
  have hi : i = rs.length := by
    rcases Nat.lt_or_ge i rs.length with h | h
    · have := (h2 i h).1 (hd i h); omega
    · omega
  subst hi
  rw [List.take_length] at h3
  refine ⟨xs, k, h3, h4, fun q hq => ?_⟩
  have key : ∀ d q, q + d + 1 = rs.length → ∃ ys m, chaR D (rs.take (q + 1)) j = .ok (ys, m) ∧ ys = xs.take (q + 1) := fun d => by
    induction d with
    | zero =>
      intro q hq
      refine ⟨xs, k, by rw [List.take_of_length_le (by omega)]; exact h3, ?_⟩
      rw [List.take_of_length_le (by rw [cha_len h3]; omega)]
    | succ d ih =>
      intro q hq
      obtain ⟨ys, m, e1, e2⟩ := ih (q + 1) (by omega)
      have hlt : q + 1 < rs.length := by omega
      have et : rs.take (q + 1 + 1) = rs.take (q + 1) ++ [rs[q + 1]] := (List.take_append_getElem hlt).symm
      rw [et] at e1
      cases hc : chaR D (rs.take (q + 1)) j with
      | error x => rw [cha_err hc] at e1; cases e1
      | ok p =>
        obtain ⟨zs, m2⟩ := p
        rw [cha_snoc hc] at e1
        refine ⟨zs, m2, rfl, ?_⟩
        cases hr : rs[q + 1] D m2 with
        | error x => rw [hr] at e1; cases e1
        | ok p =>
          rw [hr] at e1
          simp only [Except.ok.injEq, Prod.mk.injEq] at e1
          have hl := cha_len hc
          rw [List.length_take, Nat.min_eq_left (by omega)] at hl
          have h5 : zs = (zs ++ [p.1]).take (q + 1) := by rw [List.take_append_of_le_length (by omega), List.take_of_length_le (by omega)]
          rw [h5, e1.1, e2, List.take_take, Nat.min_eq_left (by omega)]
  obtain ⟨ys, m, e1, e2⟩ := key (rs.length - (q + 1)) q (by omega)
  unfold valR
  rw [e1, e2]
  simp only
  rw [List.getD_eq_getElem?_getD, List.getD_eq_getElem?_getD, List.getElem?_take_of_lt (by omega)]
/-- The next reading. -/
theorem cha_call {R D j W rs M d w'} {q : Nat} (hC : ChaC R D j W rs M d w') (h0 : d (M q) = false) (hq : q < rs.length) (hprev : q = 0 ∨ d (M (q - 1)) = true) (hinj : ∀ p, p < rs.length → p ≠ q → M p ≠ M q) {f : FuncId} {args : Array Value} {V : List Int → World → Value → Prop}
    (con : ∀ k, BlkA 83 R w' (rdV D k) → k ≤ D.length → Calls Try.prog f args w' (RdE R D w' (rs[q] D k) V)) {U : World → Value → Prop}
    (hU : ∀ v u, V (valR D rs j q) u v → ChaC R D j W rs M (doneAt d (M q)) u → But R w' u → U u v) :
    Calls Try.prog f args w' (fun e w'' => (∃ v, e = .returned v ∧ U w'' v) ∨ (∃ c, e = .panicked c ∧ ChaZ R D j W rs c w'')) := by
  obtain ⟨i, xs, k, h1, h2, h3, h4⟩ := hC
  have hi : i = q := by
    have a1 : ¬ q < i := fun h => by rw [(h2 q hq).2 h] at h0; cases h0
    rcases hprev with e | e
    · omega
    · have := (h2 (q - 1) (by omega)).1 e; omega
  subst hi
  have et : rs.take (i + 1) = rs.take i ++ [rs[i]] := (List.take_append_getElem hq).symm
  refine (con k h4.box h4.le).mono fun e w'' hh => ?_
  cases hr : rs[i] D k with
  | error x =>
    rw [hr] at hh
    refine .inr ⟨_, hh.1, x, rfl, ?_, h4.transZ hh.2⟩
    have e1 : chaR D (rs.take (i + 1)) j = .error x := by rw [et, cha_snoc h3, hr]
    have e2 := cha_err e1 (rs.drop (i + 1))
    rw [List.take_append_drop] at e2
    exact e2
  | ok p =>
    rw [hr] at hh
    obtain ⟨v, hv, hS, hA⟩ := hh
    have e1 : chaR D (rs.take (i + 1)) j = .ok (xs ++ [p.1], p.2) := by rw [et, cha_snoc h3, hr]
    have hl := cha_len h3
    rw [List.length_take, Nat.min_eq_left (by omega)] at hl
    have ev : valR D rs j i = p.1 := by
      unfold valR
      rw [e1]
      simp only
      rw [List.getD_eq_getElem?_getD, List.getElem?_append_right (by omega), hl, Nat.sub_self]
      rfl
    refine .inl ⟨v, hv, hU v w'' (by rw [ev]; exact hS) ⟨i + 1, _, _, hq, fun r hrl => ?_, e1, h4.trans hA⟩ hA.but⟩
    by_cases hrq : r = i
    · subst hrq
      rw [doneC_eq]
      exact ⟨fun _ => Nat.lt_succ_self _, fun _ => rfl⟩
    · rw [doneC_ne d (hinj r hrl hrq), h2 r hrl]
      omega
def oneV (k : IntKind) (x : List Int) (_ : World) (v : Value) : Prop := v = .int k (x.headD 0)
theorem byteL_con {R D w'} (hD : D.length ≤ 4611686018427387904) (k : Nat) (h : BlkA 83 R w' (rdV D k)) (hk : k ≤ D.length) : Calls Try.prog 82 #[.pointer (some ⟨R, 0, none⟩)] w' (RdE R D w' (byteL D k) (oneV .u8)) :=
  (rdNext_any R D k w' h hk hD).mono fun e w'' hh => by
    unfold byteL
    cases hr : byteR D k with
    | error x => rw [hr] at hh; exact hh
    | ok p => rw [hr] at hh; exact hh
theorem cntL_con {R D w'} (hD : D.length ≤ 4611686018427387904) (k : Nat) (h : BlkA 83 R w' (rdV D k)) (hk : k ≤ D.length) : Calls Try.prog 59 #[.pointer (some ⟨R, 0, none⟩)] w' (RdE R D w' (cntL D k) (oneV .i64)) :=
  (rdCount_any R D k w' h hk hD).mono fun e w'' hh => by
    unfold cntL
    cases hr : cntR D k with
    | error x => rw [hr] at hh; exact hh
    | ok p => rw [hr] at hh; exact hh
theorem intsL_con {R D w'} (hD : D.length ≤ 4611686018427387904) {most : Nat} (hm : most < 2097152) (k : Nat) (h : BlkA 83 R w' (rdV D k)) (hk : k ≤ D.length) :
    Calls Try.prog 83 #[.pointer (some ⟨R, 0, none⟩), .int .i64 (most : Int), .func (.func 84) #[.pointer (some ⟨R, 0, none⟩)] #[]] w' (RdE R D w' (intsL most D k) (RowS 3 iV 1 (fun b : Int => b) noS w'.heap.size)) :=
  rdInts_any R D k w' h hk hD most hm fun m U hU hmU => (rdInteger_any R D m U hU hmU hD).mono fun e w'' hh => by
    cases hr : intR D m with
    | error x => rw [hr] at hh; exact hh
    | ok p =>
      rw [hr] at hh
      obtain ⟨v, h1, h2, h3⟩ := hh
      exact ⟨v, h1, ⟨p.1, rfl, h2, trivial⟩, h3⟩
def rsO : List RdL := [byteL, cntL, cntL]
def mO (q : Nat) : Nat := [3, 7, 11].getD q 0
def rsP : List RdL := [byteL, intsL 16]
def mP (q : Nat) : Nat := [3, 9].getD q 0
theorem sizOp : (Try.prog.info? 53).map (·.size) = some 3 := by kernel_rfl
theorem sizPrt : (Try.prog.info? 45).map (·.size) = some 2 := by kernel_rfl
theorem sizLin : (Try.prog.info? 49).map (·.size) = some 3 := by kernel_rfl
theorem sizReg : (Try.prog.info? 47).map (·.size) = some 2 := by kernel_rfl
theorem op_cha (D : List UInt8) (j : Nat) : opR D j = match chaR D rsO j with | .error x => .error x | .ok p => .ok (⟨((p.1.getD 0 []).headD 0).toNat, (p.1.getD 1 []).headD 0, (p.1.getD 2 []).headD 0⟩, p.2) := by
  unfold opR thenR rsO
  simp only [chaR, byteL, cntL]
  cases byteR D j with
  | error x => rfl
  | ok p =>
    simp only
    cases cntR D p.2 with
    | error x => rfl
    | ok p2 =>
      simp only
      cases cntR D p2.2 with
      | error x => rfl
      | ok p3 => rfl
theorem prt_cha (D : List UInt8) (j : Nat) : prtR D j = match chaR D rsP j with | .error x => .error x | .ok p => .ok (⟨((p.1.getD 0 []).headD 0).toNat, p.1.getD 1 []⟩, p.2) := by
  unfold prtR thenR rsP
  simp only [chaR, byteL, intsL]
  cases byteR D j with
  | error x => rfl
  | ok p =>
    simp only
    cases listR 16 intR D p.2 with
    | error x => rfl
    | ok p2 => rfl
theorem byte_val {D : List UInt8} {rs : List RdL} {j : Nat} {xs : List (List Int)} {k : Nat} (h : chaR D (byteL :: rs) j = .ok (xs, k)) : (((xs.getD 0 []).headD 0).toNat : Int) = (xs.getD 0 []).headD 0 := by
  unfold chaR at h
  simp only [byteL] at h
  cases hb : byteR D j with
  | error x => rw [hb] at h; cases h
  | ok p =>
    rw [hb] at h
    simp only at h
    cases hc : chaR D rs p.2 with
    | error x => rw [hc] at h; cases h
    | ok q => rw [hc] at h; cases h; rfl
set_option maxRecDepth 100000 in
set_option maxHeartbeats 8000000 in
theorem rdOp_any (R : Nat) (D : List UInt8) (j : Nat) (w : World) (h : BlkA 83 R w (rdV D j)) (hj : j ≤ D.length) (hD : D.length ≤ 4611686018427387904) :
    Calls Try.prog 65 #[.pointer (some ⟨R, 0, none⟩)] w (RdE R D w (opR D j) (fun a w' v => ∃ b : OpC, (fun b : OpC => b) b = a ∧ v = .agg #[.int .u8 (b.kind : Int), .int .i64 b.a, .int .i64 b.b] ∧ noS w.heap.size b w')) := by
  obtain ⟨PE, hPE⟩ : ∃ Q : Ending → World → Prop, RdE R D w (opR D j) (fun a w' v => ∃ b : OpC, (fun b : OpC => b) b = a ∧ v = .agg #[.int .u8 (b.kind : Int), .int .i64 b.a, .int .i64 b.b] ∧ noS w.heap.size b w') = Q := ⟨_, rfl⟩
  rw [hPE]
  have HPE := hiddenC hPE
  have HD := hiddenC hD
  have EO := hiddenC (op_cha D j)
  obtain ⟨x0, hx0⟩ : ∃ x, (valR D rsO j 0).headD 0 = x := ⟨_, rfl⟩
  obtain ⟨x1, hx1⟩ : ∃ x, (valR D rsO j 1).headD 0 = x := ⟨_, rfl⟩
  obtain ⟨x2, hx2⟩ : ∃ x, (valR D rsO j 2).headD 0 = x := ⟨_, rfl⟩
  have X0 := hiddenC hx0
  have X1 := hiddenC hx1
  have X2 := hiddenC hx2
  have b1 := (Below.refl w.heap.size w).alloc (Nat.le_refl _) (.cells #[.int .u8 0, .int .i64 0, .int .i64 0] 53)
  have G1 := hiddenC (blkA_new 53 w #[.int .u8 0, .int .i64 0, .int .i64 0])
  have A1 := hiddenC ((RdA.refl h hj).below b1)
  have RL := h.lt
  clear hPE h hj hD hx0 hx1 hx2 b1
  go_enter Try.func65, Try.ntmps65
  go_upto_region 1 with fail
  generalize w.alloc (.cells #[.int .u8 0, .int .i64 0, .int .i64 0] 53) = W1 at *
  obtain ⟨ob, hob⟩ : ∃ x, w.heap.size = x := ⟨_, rfl⟩
  have HOR : Hid (ob ≠ R) := by show _ ≠ _; omega
  have HRO : Hid (R ≠ ob) := by show _ ≠ _; omega
  have HWO : Hid (w.heap.size ≤ ob) := Nat.le_of_eq hob
  rw [hob] at G1 ⊢
  clear hob RL
  refine wp_region_pan [3, 7, 11, 13] (fun d_ i u z => match i with
      | 0 => z = .pointer (some ⟨R, 0, none⟩)
      | 1 => z = .pointer (some ⟨R, 0, none⟩)
      | 2 => z = .pointer (some ⟨R, 0, none⟩)
      | 3 => z = .int .u8 x0
      | 4 => z = .pointer (some ⟨R, 0, none⟩)
      | 5 => z = .pointer (some ⟨R, 0, none⟩)
      | 6 => z = .pointer (some ⟨R, 0, none⟩)
      | 7 => z = .int .i64 x1
      | 8 => z = .pointer (some ⟨R, 0, none⟩)
      | 9 => z = .pointer (some ⟨R, 0, none⟩)
      | 10 => z = .pointer (some ⟨R, 0, none⟩)
      | 11 => z = .int .i64 x2
      | 12 => z = .agg #[.int .u8 x0, .int .i64 x1, .int .i64 x2]
      | 13 => True
      | _ => True) (fun d_ u => ChaC R D j w rsO mO d_ u ∧ (d_ 13 = false → BlkA 53 ob u #[.int .u8 0, .int .i64 0, .int .i64 0]) ∧ (d_ 13 = true → BlkA 53 ob u #[.int .u8 x0, .int .i64 x1, .int .i64 x2])) (Z := ChaZ R D j w rsO) ?_ (by kernel_rfl) (by kernel_rfl) (by kernel_rfl) ?_ ?_ ?_ ?_ ?_ ?_ (by kernel_rfl)
  · rintro c_ a' w' hd_ ⟨x, rfl, hx, hz⟩
    exact ⟨hd_, by rw [← HPE.out, EO.out, hx]; exact ⟨rfl, hz⟩⟩
  · intro d_ i w_ v_ w' h hb_
    match i, h with
    | 0, h => exact h
    | 1, h => exact h
    | 2, h => exact h
    | 3, h => exact h
    | 4, h => exact h
    | 5, h => exact h
    | 6, h => exact h
    | 7, h => exact h
    | 8, h => exact h
    | 9, h => exact h
    | 10, h => exact h
    | 11, h => exact h
    | 12, h => exact h
    | 13, h => exact h
    | _ + 14, _ => trivial
  · intro d_ u u' h hb_
    exact ⟨h.1.later hb_, fun e => (h.2.1 e).below hb_, fun e => (h.2.2 e).below hb_⟩
  · exact ⟨ChaC.start A1.out, fun _ => G1.out, fun e => absurd e (by decide)⟩
  · intro d_ i o ρ w' hm ho hf hg hC hcs hfs hfr hdep
    match i, hm, ho, hf, hg, hfr, hdep with
    | 0, _, ho, hf, hg, hfr, hdep =>
      simp only [gTA, gCZ, gSI] at ho
      subst ho
      refine ⟨fun _ => ?_, fun hw => absurd (show true = false from hw) (by decide)⟩
      have ts : ρ (.tmp 0) = .pointer (some ⟨R, 0, none⟩) := hfr 0 (by kernel_rfl)
      simp [go_sem, ts]
      exact ⟨Below.refl _ _, rfl⟩
    | 1, _, ho, hf, hg, hfr, hdep =>
      simp only [gTA, gCZ, gCS, gSI] at ho
      subst ho
      refine ⟨fun _ => ?_, fun hw => absurd (show true = false from hw) (by decide)⟩
      have d0 : ρ (.tmp 3) = .pointer (some ⟨R, 0, none⟩) := hdep 0 3 (by kernel_rfl) (by kernel_rfl)
      simp [go_sem, d0]
      exact ⟨Below.refl _ _, rfl⟩
    | 2, _, ho, hf, hg, hfr, hdep =>
      simp only [gTA, gCZ, gCS, gSI] at ho
      subst ho
      refine ⟨fun _ => ?_, fun hw => absurd (show true = false from hw) (by decide)⟩
      have d0 : ρ (.tmp 4) = .pointer (some ⟨R, 0, none⟩) := hdep 1 4 (by kernel_rfl) (by kernel_rfl)
      simp [go_sem, d0]
      exact ⟨Below.refl _ _, rfl⟩
    | 3, hm, _, _, _, _, _ => exact absurd hm (by decide)
    | 4, _, ho, hf, hg, hfr, hdep =>
      simp only [gTA, gCZ, gCS, gSI] at ho
      subst ho
      refine ⟨fun _ => ?_, fun hw => absurd (show true = false from hw) (by decide)⟩
      have ts : ρ (.tmp 0) = .pointer (some ⟨R, 0, none⟩) := hfr 0 (by kernel_rfl)
      simp [go_sem, ts]
      exact ⟨Below.refl _ _, rfl⟩
    | 5, _, ho, hf, hg, hfr, hdep =>
      simp only [gTA, gCZ, gCS, gSI] at ho
      subst ho
      refine ⟨fun _ => ?_, fun hw => absurd (show true = false from hw) (by decide)⟩
      have d0 : ρ (.tmp 7) = .pointer (some ⟨R, 0, none⟩) := hdep 4 7 (by kernel_rfl) (by kernel_rfl)
      simp [go_sem, d0]
      exact ⟨Below.refl _ _, rfl⟩
    | 6, _, ho, hf, hg, hfr, hdep =>
      simp only [gTA, gCZ, gCS, gSI] at ho
      subst ho
      refine ⟨fun _ => ?_, fun hw => absurd (show true = false from hw) (by decide)⟩
      have d0 : ρ (.tmp 8) = .pointer (some ⟨R, 0, none⟩) := hdep 5 8 (by kernel_rfl) (by kernel_rfl)
      simp [go_sem, d0]
      exact ⟨Below.refl _ _, rfl⟩
    | 7, hm, _, _, _, _, _ => exact absurd hm (by decide)
    | 8, _, ho, hf, hg, hfr, hdep =>
      simp only [gTA, gCZ, gCS, gSI] at ho
      subst ho
      refine ⟨fun _ => ?_, fun hw => absurd (show true = false from hw) (by decide)⟩
      have ts : ρ (.tmp 0) = .pointer (some ⟨R, 0, none⟩) := hfr 0 (by kernel_rfl)
      simp [go_sem, ts]
      exact ⟨Below.refl _ _, rfl⟩
    | 9, _, ho, hf, hg, hfr, hdep =>
      simp only [gTA, gCZ, gCS, gSI] at ho
      subst ho
      refine ⟨fun _ => ?_, fun hw => absurd (show true = false from hw) (by decide)⟩
      have d0 : ρ (.tmp 11) = .pointer (some ⟨R, 0, none⟩) := hdep 8 11 (by kernel_rfl) (by kernel_rfl)
      simp [go_sem, d0]
      exact ⟨Below.refl _ _, rfl⟩
    | 10, _, ho, hf, hg, hfr, hdep =>
      simp only [gTA, gCZ, gCS, gSI] at ho
      subst ho
      refine ⟨fun _ => ?_, fun hw => absurd (show true = false from hw) (by decide)⟩
      have d0 : ρ (.tmp 12) = .pointer (some ⟨R, 0, none⟩) := hdep 9 12 (by kernel_rfl) (by kernel_rfl)
      simp [go_sem, d0]
      exact ⟨Below.refl _ _, rfl⟩
    | 11, hm, _, _, _, _, _ => exact absurd hm (by decide)
    | 12, _, ho, hf, hg, hfr, hdep =>
      simp only [gTA, gCZ, gCS, gSI] at ho
      subst ho
      refine ⟨fun _ => ?_, fun hw => absurd (show true = false from hw) (by decide)⟩
      have d0 : ρ (.tmp 6) = .int .u8 x0 := hdep 3 6 (by kernel_rfl) (by kernel_rfl)
      have d1 : ρ (.tmp 10) = .int .i64 x1 := hdep 7 10 (by kernel_rfl) (by kernel_rfl)
      have d2 : ρ (.tmp 14) = .int .i64 x2 := hdep 11 14 (by kernel_rfl) (by kernel_rfl)
      simp [go_sem, d0, d1, d2]
      exact ⟨Below.refl _ _, rfl⟩
    | 13, hm, _, _, _, _, _ => exact absurd hm (by decide)
    | n + 14, _, ho, _, _, _, _ => simp at ho
  · intro d_ i o ρ w' hm ho h0 hf hg hC hcs hfs hfr hdep
    match i, hm, ho, h0, hf, hg, hfr, hdep with
    | 0, hm, _, _, _, _, _, _ => exact absurd hm (by decide)
    | 1, hm, _, _, _, _, _, _ => exact absurd hm (by decide)
    | 2, hm, _, _, _, _, _, _ => exact absurd hm (by decide)
    | 3, _, ho, h0, hf, hg, hfr, hdep =>
      simp only [gTA, gCZ, gCS, gSI] at ho
      subst ho
      refine ⟨rfl, ?_⟩
      have t0 : ρ (.tmp 5) = .pointer (some ⟨R, 0, none⟩) := hdep 2 5 (by kernel_rfl) (by kernel_rfl)
      have hd_ : d_ 13 = false := hf 13 (by decide) (by kernel_rfl)
      refine mark_enter (f := 82) (args := #[.pointer (some ⟨R, 0, none⟩)]) (by simp [go_sem, t0, hfs]) (cha_call (rs := rsO) (M := mO) (q := 0) hC.1 h0 (by decide) (.inl rfl) (by decide) (fun k h1 h2 => byteL_con HD.out k h1 h2) ?_)
      intro v u9 hV hC9 hB9
      refine ⟨⟨hC9, fun e => (hC.2.1 (by simpa [doneAt] using e)).but hB9 HOR.out, fun e => absurd (hd_.symm.trans (by simpa [doneAt] using e)) (by decide)⟩, fun _ => ?_, ?_⟩
      · exact Eq.trans hV (by rw [X0.out])
      · intro j_ t_ hj_ hs
        match j_, hs with
        | 0, hs => exact hs
        | 1, hs => exact hs
        | 2, hs => exact hs
        | 3, hs => exact hs
        | 4, hs => exact hs
        | 5, hs => exact hs
        | 6, hs => exact hs
        | 7, hs => exact hs
        | 8, hs => exact hs
        | 9, hs => exact hs
        | 10, hs => exact hs
        | 11, hs => exact hs
        | 12, hs => exact hs
        | 13, hs => exact hs
        | _ + 14, _ => trivial
    | 4, hm, _, _, _, _, _, _ => exact absurd hm (by decide)
    | 5, hm, _, _, _, _, _, _ => exact absurd hm (by decide)
    | 6, hm, _, _, _, _, _, _ => exact absurd hm (by decide)
    | 7, _, ho, h0, hf, hg, hfr, hdep =>
      simp only [gTA, gCZ, gCS, gSI] at ho
      subst ho
      refine ⟨rfl, ?_⟩
      have t0 : ρ (.tmp 9) = .pointer (some ⟨R, 0, none⟩) := hdep 6 9 (by kernel_rfl) (by kernel_rfl)
      have hd_ : d_ 13 = false := hf 13 (by decide) (by kernel_rfl)
      refine mark_enter (f := 59) (args := #[.pointer (some ⟨R, 0, none⟩)]) (by simp [go_sem, t0, hfs]) (cha_call (rs := rsO) (M := mO) (q := 1) hC.1 h0 (by decide) (.inr (hg 3 (by decide) (by kernel_rfl))) (by decide) (fun k h1 h2 => cntL_con HD.out k h1 h2) ?_)
      intro v u9 hV hC9 hB9
      refine ⟨⟨hC9, fun e => (hC.2.1 (by simpa [doneAt] using e)).but hB9 HOR.out, fun e => absurd (hd_.symm.trans (by simpa [doneAt] using e)) (by decide)⟩, fun _ => ?_, ?_⟩
      · exact Eq.trans hV (by rw [X1.out])
      · intro j_ t_ hj_ hs
        match j_, hs with
        | 0, hs => exact hs
        | 1, hs => exact hs
        | 2, hs => exact hs
        | 3, hs => exact hs
        | 4, hs => exact hs
        | 5, hs => exact hs
        | 6, hs => exact hs
        | 7, hs => exact hs
        | 8, hs => exact hs
        | 9, hs => exact hs
        | 10, hs => exact hs
        | 11, hs => exact hs
        | 12, hs => exact hs
        | 13, hs => exact hs
        | _ + 14, _ => trivial
    | 8, hm, _, _, _, _, _, _ => exact absurd hm (by decide)
    | 9, hm, _, _, _, _, _, _ => exact absurd hm (by decide)
    | 10, hm, _, _, _, _, _, _ => exact absurd hm (by decide)
    | 11, _, ho, h0, hf, hg, hfr, hdep =>
      simp only [gTA, gCZ, gCS, gSI] at ho
      subst ho
      refine ⟨rfl, ?_⟩
      have t0 : ρ (.tmp 13) = .pointer (some ⟨R, 0, none⟩) := hdep 10 13 (by kernel_rfl) (by kernel_rfl)
      have hd_ : d_ 13 = false := hf 13 (by decide) (by kernel_rfl)
      refine mark_enter (f := 59) (args := #[.pointer (some ⟨R, 0, none⟩)]) (by simp [go_sem, t0, hfs]) (cha_call (rs := rsO) (M := mO) (q := 2) hC.1 h0 (by decide) (.inr (hg 7 (by decide) (by kernel_rfl))) (by decide) (fun k h1 h2 => cntL_con HD.out k h1 h2) ?_)
      intro v u9 hV hC9 hB9
      refine ⟨⟨hC9, fun e => (hC.2.1 (by simpa [doneAt] using e)).but hB9 HOR.out, fun e => absurd (hd_.symm.trans (by simpa [doneAt] using e)) (by decide)⟩, fun _ => ?_, ?_⟩
      · exact Eq.trans hV (by rw [X2.out])
      · intro j_ t_ hj_ hs
        match j_, hs with
        | 0, hs => exact hs
        | 1, hs => exact hs
        | 2, hs => exact hs
        | 3, hs => exact hs
        | 4, hs => exact hs
        | 5, hs => exact hs
        | 6, hs => exact hs
        | 7, hs => exact hs
        | 8, hs => exact hs
        | 9, hs => exact hs
        | 10, hs => exact hs
        | 11, hs => exact hs
        | 12, hs => exact hs
        | 13, hs => exact hs
        | _ + 14, _ => trivial
    | 12, hm, _, _, _, _, _, _ => exact absurd hm (by decide)
    | 13, _, ho, h0, hf, hg, hfr, hdep =>
      simp only [gTA, gCZ, gCS, gSI] at ho
      subst ho
      refine ⟨rfl, ?_⟩
      have tb : ρ (.tmp 2) = .pointer (some ⟨ob, 0, none⟩) := hfr 2 (by kernel_rfl)
      have t0 : ρ (.tmp 15) = .agg #[.int .u8 x0, .int .i64 x1, .int .i64 x2] := hdep 12 15 (by kernel_rfl) (by kernel_rfl)
      refine mark_storeC 53 (.tmp 2) (.tmp 15) rfl ob 53 #[.int .u8 0, .int .i64 0, .int .i64 0] #[.int .u8 x0, .int .i64 x1, .int .i64 x2] tb t0 (hC.2.1 h0) sizOp rfl (by rw [← Array.all_toList]; rfl) ?_
      intro u9 hB9 hB8
      refine ⟨⟨hC.1.put (by decide) hB8 HWO.out HRO.out, fun e => absurd e (by rw [doneC_eq]; decide), fun _ => hB9⟩, fun h => absurd rfl h, ?_⟩
      intro j_ t_ hj_ hs
      match j_, hs with
      | 0, hs => exact hs
      | 1, hs => exact hs
      | 2, hs => exact hs
      | 3, hs => exact hs
      | 4, hs => exact hs
      | 5, hs => exact hs
      | 6, hs => exact hs
      | 7, hs => exact hs
      | 8, hs => exact hs
      | 9, hs => exact hs
      | 10, hs => exact hs
      | 11, hs => exact hs
      | 12, hs => exact hs
      | 13, hs => exact hs
      | _ + 14, _ => trivial
    | n + 14, _, ho, _, _, _, _, _ => simp at ho
  · intro U8 V8x hC8 hS
    simp only [puts, put_none]
    simp only [Act.put, List.setIfInBounds_toArray, List.set_cons_zero, List.set_cons_succ]
    clear hS 
    obtain ⟨xs, k, e1, hA, hv⟩ := hC8.1.all (by decide)
    have B9 := hC8.2.2 (by decide)
    have c0 := B9.cell (k := 0) rfl
    have c1 := B9.cell (k := 1) rfl
    have c2 := B9.cell (k := 2) rfl
    simp only [List.getElem_toArray, List.getElem_cons_zero, List.getElem_cons_succ] at c0 c1 c2
    have HA9 := hiddenC hA
    have E9 : Hid (opR D j = .ok (⟨x0.toNat, x1, x2⟩, k)) := by
      show _ = _
      rw [EO.out, e1]
      simp only
      rw [hv 0 (by decide), hv 1 (by decide), hv 2 (by decide), X0.out, X1.out, X2.out]
    have XV : Hid ((x0.toNat : Int) = x0) := by
      have q := byte_val e1
      rw [hv 0 (by decide), X0.out] at q
      exact q
    clear hC8 B9 hA hv e1
    go_wp2
    refine bodyPost_ret (v := .agg #[.int .u8 x0, .int .i64 x1, .int .i64 x2]) (by simp [results, Try.results65, go_sem, c0, c1, c2]) rfl ?_
    rw [← HPE.out, E9.out]
    refine ⟨_, rfl, ⟨_, rfl, ?_, trivial⟩, HA9.out⟩
    show Value.agg _ = Value.agg #[.int .u8 (x0.toNat : Int), _, _]
    rw [XV.out]
theorem ChaC.size {R D j W rs M d u} (h : ChaC R D j W rs M d u) : W.heap.size ≤ u.heap.size := by
  obtain ⟨i, xs, k, -, -, -, h4⟩ := h
  exact h4.but.size
theorem ChaC.reader {R D j W rs M d u} (h : ChaC R D j W rs M d u) : ∃ k, BlkA 83 R u (rdV D k) := by
  obtain ⟨i, xs, k, -, -, -, h4⟩ := h
  exact ⟨k, h4.box⟩
abbrev IntS (B : Nat) (l : List Int) (w : World) (v : Value) : Prop := RowS 3 iV 1 (fun b : Int => b) noS B l w v
theorem IntS.mono {B B' : Nat} {l : List Int} {w : World} {v : Value} (h : IntS B' l w v) (hB : B ≤ B') : IntS B l w v := by
  obtain ⟨a, k, L, e, h1, h2, h3⟩ := h
  exact ⟨a, k, L, e, h1, h2.mono hB, fun _ _ => trivial⟩
theorem IntS.later {B : Nat} {l : List Int} {w w' : World} {v : Value} (h : IntS B l w v) (hb : Below w.heap.size w w') : IntS B l w' v := by
  obtain ⟨a, k, L, e, h1, h2, h3⟩ := h
  exact ⟨a, k, L, e, h1, h2.later hb, fun _ _ => trivial⟩
theorem IntS.but {B K : Nat} {l : List Int} {w w' : World} {v : Value} {T : TypeId} {cs : Array Value} (h : IntS B l w v) (hb : But K w w') (hK : BlkA T K w cs) (hT : 3 ≠ T) : IntS B l w' v := by
  obtain ⟨a, k, L, e, h1, h2, h3⟩ := h
  exact ⟨a, k, L, e, h1, h2.but hb (h2.ne_type hK hT), fun _ _ => trivial⟩
theorem IntS.open {B : Nat} {l : List Int} {w : World} {v : Value} (h : IntS B l w v) : ∃ a k, v = .slice a l.length k ∧ CapV 3 iV 1 B w a k l := by
  obtain ⟨a, k, L, e, h1, h2, h3⟩ := h
  have e2 : L = l := by rw [← h1]; simp
  subst e2
  exact ⟨a, k, e, h2⟩
set_option maxRecDepth 100000 in
set_option maxHeartbeats 8000000 in
theorem rdPart_any (R : Nat) (D : List UInt8) (j : Nat) (w : World) (h : BlkA 83 R w (rdV D j)) (hj : j ≤ D.length) (hD : D.length ≤ 4611686018427387904) :
    Calls Try.prog 61 #[.pointer (some ⟨R, 0, none⟩)] w (RdE R D w (prtR D j) (fun a w' v => ∃ b : PrtC × (Option Addr × Nat), Prod.fst b = a ∧ v = .agg #[.int .u8 (b.1.tag : Int), .slice b.2.1 b.1.ps.length b.2.2] ∧ prtS w.heap.size b w')) := by
  obtain ⟨PE, hPE⟩ : ∃ Q : Ending → World → Prop, RdE R D w (prtR D j) (fun a w' v => ∃ b : PrtC × (Option Addr × Nat), Prod.fst b = a ∧ v = .agg #[.int .u8 (b.1.tag : Int), .slice b.2.1 b.1.ps.length b.2.2] ∧ prtS w.heap.size b w') = Q := ⟨_, rfl⟩
  rw [hPE]
  have HPE := hiddenC hPE
  have HD := hiddenC hD
  have EO := hiddenC (prt_cha D j)
  obtain ⟨x0, hx0⟩ : ∃ x, (valR D rsP j 0).headD 0 = x := ⟨_, rfl⟩
  obtain ⟨x1, hx1⟩ : ∃ x, valR D rsP j 1 = x := ⟨_, rfl⟩
  have X0 := hiddenC hx0
  have X1 := hiddenC hx1
  have b1 := (Below.refl w.heap.size w).alloc (Nat.le_refl _) (.cells #[.int .u8 0, .slice none 0 0] 45)
  have G1 := hiddenC (blkA_new 45 w #[.int .u8 0, .slice none 0 0])
  have A1 := hiddenC ((RdA.refl h hj).below b1)
  have RL := h.lt
  clear hPE h hj hD hx0 hx1 b1
  go_enter Try.func61, Try.ntmps61
  go_upto_region 1 with fail
  generalize w.alloc (.cells #[.int .u8 0, .slice none 0 0] 45) = W1 at *
  obtain ⟨ob, hob⟩ : ∃ x, w.heap.size = x := ⟨_, rfl⟩
  have HOR : Hid (ob ≠ R) := by show _ ≠ _; omega
  have HRO : Hid (R ≠ ob) := by show _ ≠ _; omega
  have HWO : Hid (w.heap.size ≤ ob) := Nat.le_of_eq hob
  have OBQ := hiddenC hob
  have G1' : Hid (BlkA 45 ob W1 #[.int .u8 0, .slice none 0 0]) := by have q := G1.out; rw [hob] at q; exact q
  clear RL G1
  have G1 := G1'
  clear G1'
  rw [show w.heap.size = ob from hob]
  clear hob
  refine wp_region_pan [3, 9, 11] (fun d_ i u z => match i with
      | 0 => z = .pointer (some ⟨R, 0, none⟩)
      | 1 => z = .pointer (some ⟨R, 0, none⟩)
      | 2 => z = .pointer (some ⟨R, 0, none⟩)
      | 3 => z = .int .u8 x0
      | 4 => z = .pointer (some ⟨R, 0, none⟩)
      | 5 => z = .pointer (some ⟨R, 0, none⟩)
      | 6 => z = .pointer (some ⟨R, 0, none⟩)
      | 7 => z = .pointer (some ⟨R, 0, none⟩)
      | 8 => z = .func (.func 84) #[.pointer (some ⟨R, 0, none⟩)] #[]
      | 9 => (d_ 9 = true ∧ (d_ 11 = false → IntS w.heap.size x1 u z))
      | 10 => (d_ 9 = true ∧ (d_ 11 = false → ∃ q, IntS w.heap.size x1 u q ∧ z = .agg #[.int .u8 x0, q]))
      | 11 => True
      | _ => True) (fun d_ u => ChaC R D j w rsP mP d_ u ∧ (d_ 11 = false → BlkA 45 ob u #[.int .u8 0, .slice none 0 0]) ∧ (d_ 11 = true → ∃ q, IntS w.heap.size x1 u q ∧ BlkA 45 ob u #[.int .u8 x0, q])) (Z := ChaZ R D j w rsP) ?_ (by kernel_rfl) (by kernel_rfl) (by kernel_rfl) ?_ ?_ ?_ ?_ ?_ ?_ (by kernel_rfl)
  · rintro c_ a' w' hd_ ⟨x, rfl, hx, hz⟩
    exact ⟨hd_, by rw [← HPE.out, EO.out, hx]; exact ⟨rfl, hz⟩⟩
  · intro d_ i w_ v_ w' h hb_
    match i, h with
    | 0, h => exact h
    | 1, h => exact h
    | 2, h => exact h
    | 3, h => exact h
    | 4, h => exact h
    | 5, h => exact h
    | 6, h => exact h
    | 7, h => exact h
    | 8, h => exact h
    | 9, h => exact ⟨h.1, fun e => IntS.later (h.2 e) hb_⟩
    | 10, h => exact ⟨h.1, fun e => by obtain ⟨q, q1, q2⟩ := h.2 e; exact ⟨q, IntS.later q1 hb_, q2⟩⟩
    | 11, h => exact h
    | _ + 12, _ => trivial
  · intro d_ u u' h hb_
    exact ⟨h.1.later hb_, fun e => (h.2.1 e).below hb_, fun e => by obtain ⟨q, q1, q2⟩ := h.2.2 e; exact ⟨q, IntS.later q1 hb_, q2.below hb_⟩⟩
  · exact ⟨ChaC.start A1.out, fun _ => G1.out, fun e => absurd e (by decide)⟩
  · intro d_ i o ρ w' hm ho hf hg hC hcs hfs hfr hdep
    match i, hm, ho, hf, hg, hfr, hdep with
    | 0, _, ho, hf, hg, hfr, hdep =>
      simp only [gTA, gCZ, gSI] at ho
      subst ho
      refine ⟨fun _ => ?_, fun hw => absurd (show true = false from hw) (by decide)⟩
      have ts : ρ (.tmp 0) = .pointer (some ⟨R, 0, none⟩) := hfr 0 (by kernel_rfl)
      simp [go_sem, ts]
      exact ⟨Below.refl _ _, rfl⟩
    | 1, _, ho, hf, hg, hfr, hdep =>
      simp only [gTA, gCZ, gCS, gSI] at ho
      subst ho
      refine ⟨fun _ => ?_, fun hw => absurd (show true = false from hw) (by decide)⟩
      have d0 : ρ (.tmp 3) = .pointer (some ⟨R, 0, none⟩) := hdep 0 3 (by kernel_rfl) (by kernel_rfl)
      simp [go_sem, d0]
      exact ⟨Below.refl _ _, rfl⟩
    | 2, _, ho, hf, hg, hfr, hdep =>
      simp only [gTA, gCZ, gCS, gSI] at ho
      subst ho
      refine ⟨fun _ => ?_, fun hw => absurd (show true = false from hw) (by decide)⟩
      have d0 : ρ (.tmp 4) = .pointer (some ⟨R, 0, none⟩) := hdep 1 4 (by kernel_rfl) (by kernel_rfl)
      simp [go_sem, d0]
      exact ⟨Below.refl _ _, rfl⟩
    | 3, hm, _, _, _, _, _ => exact absurd hm (by decide)
    | 4, _, ho, hf, hg, hfr, hdep =>
      simp only [gTA, gCZ, gCS, gSI] at ho
      subst ho
      refine ⟨fun _ => ?_, fun hw => absurd (show true = false from hw) (by decide)⟩
      have ts : ρ (.tmp 0) = .pointer (some ⟨R, 0, none⟩) := hfr 0 (by kernel_rfl)
      simp [go_sem, ts]
      exact ⟨Below.refl _ _, rfl⟩
    | 5, _, ho, hf, hg, hfr, hdep =>
      simp only [gTA, gCZ, gCS, gSI] at ho
      subst ho
      refine ⟨fun _ => ?_, fun hw => absurd (show true = false from hw) (by decide)⟩
      have ts : ρ (.tmp 0) = .pointer (some ⟨R, 0, none⟩) := hfr 0 (by kernel_rfl)
      simp [go_sem, ts]
      exact ⟨Below.refl _ _, rfl⟩
    | 6, _, ho, hf, hg, hfr, hdep =>
      simp only [gTA, gCZ, gCS, gSI] at ho
      subst ho
      refine ⟨fun _ => ?_, fun hw => absurd (show true = false from hw) (by decide)⟩
      have d0 : ρ (.tmp 8) = .pointer (some ⟨R, 0, none⟩) := hdep 5 8 (by kernel_rfl) (by kernel_rfl)
      simp [go_sem, d0]
      exact ⟨Below.refl _ _, rfl⟩
    | 7, _, ho, hf, hg, hfr, hdep =>
      simp only [gTA, gCZ, gCS, gSI] at ho
      subst ho
      refine ⟨fun _ => ?_, fun hw => absurd (show true = false from hw) (by decide)⟩
      have d0 : ρ (.tmp 9) = .pointer (some ⟨R, 0, none⟩) := hdep 6 9 (by kernel_rfl) (by kernel_rfl)
      simp [go_sem, d0]
      exact ⟨Below.refl _ _, rfl⟩
    | 8, _, ho, hf, hg, hfr, hdep =>
      simp only [gTA, gCZ, gCS, gSI] at ho
      subst ho
      refine ⟨fun _ => ?_, fun hw => absurd (show true = false from hw) (by decide)⟩
      have d0 : ρ (.tmp 10) = .pointer (some ⟨R, 0, none⟩) := hdep 7 10 (by kernel_rfl) (by kernel_rfl)
      simp [go_sem, d0]
      exact ⟨Below.refl _ _, rfl⟩
    | 9, hm, _, _, _, _, _ => exact absurd hm (by decide)
    | 10, _, ho, hf, hg, hfr, hdep =>
      simp only [gTA, gCZ, gCS, gSI] at ho
      subst ho
      refine ⟨fun _ => ?_, fun hw => absurd (show true = false from hw) (by decide)⟩
      have t0 : ρ (.tmp 6) = .int .u8 x0 := hdep 3 6 (by kernel_rfl) (by kernel_rfl)
      have t1 : d_ 9 = true ∧ (d_ 11 = false → IntS w.heap.size x1 w' (ρ (.tmp 12))) := hdep 9 12 (by kernel_rfl) (by kernel_rfl)
      have hd_ : d_ 11 = false := hf 11 (by decide) (by kernel_rfl)
      have qr := t1.2 hd_
      obtain ⟨ra, rk, e9, r2⟩ := IntS.open qr
      rw [e9] at qr
      simp [go_sem, t0, e9]
      exact ⟨Below.refl _ _, t1.1, fun _ => ⟨_, qr, rfl⟩⟩
    | 11, hm, _, _, _, _, _ => exact absurd hm (by decide)
    | n + 12, _, ho, _, _, _, _ => simp at ho
  · intro d_ i o ρ w' hm ho h0 hf hg hC hcs hfs hfr hdep
    match i, hm, ho, h0, hf, hg, hfr, hdep with
    | 0, hm, _, _, _, _, _, _ => exact absurd hm (by decide)
    | 1, hm, _, _, _, _, _, _ => exact absurd hm (by decide)
    | 2, hm, _, _, _, _, _, _ => exact absurd hm (by decide)
    | 3, _, ho, h0, hf, hg, hfr, hdep =>
      simp only [gTA, gCZ, gCS, gSI] at ho
      subst ho
      refine ⟨rfl, ?_⟩
      have h9_ : d_ 9 = false := hf 9 (by decide) (by kernel_rfl)
      have t0 : ρ (.tmp 5) = .pointer (some ⟨R, 0, none⟩) := hdep 2 5 (by kernel_rfl) (by kernel_rfl)
      have hd_ : d_ 11 = false := hf 11 (by decide) (by kernel_rfl)
      refine mark_enter (f := 82) (args := #[.pointer (some ⟨R, 0, none⟩)]) (by simp [go_sem, t0, hfs]) (cha_call (rs := rsP) (M := mP) (q := 0) hC.1 h0 (by decide) (.inl rfl) (by decide) (fun k h1 h2 => byteL_con HD.out k h1 h2) ?_)
      intro v u9 hV hC9 hB9
      refine ⟨⟨hC9, fun e => (hC.2.1 (by simpa [doneAt] using e)).but hB9 HOR.out, fun e => absurd (hd_.symm.trans (by simpa [doneAt] using e)) (by decide)⟩, fun _ => ?_, ?_⟩
      · exact Eq.trans hV (by rw [X0.out])
      · intro j_ t_ hj_ hs
        match j_, hs with
        | 0, hs => exact hs
        | 1, hs => exact hs
        | 2, hs => exact hs
        | 3, hs => exact hs
        | 4, hs => exact hs
        | 5, hs => exact hs
        | 6, hs => exact hs
        | 7, hs => exact hs
        | 8, hs => exact hs
        | 9, hs => exact absurd (hs.1.symm.trans h9_) (by decide)
        | 10, hs => exact absurd (hs.1.symm.trans h9_) (by decide)
        | 11, hs => exact hs
        | _ + 12, _ => trivial
    | 4, hm, _, _, _, _, _, _ => exact absurd hm (by decide)
    | 5, hm, _, _, _, _, _, _ => exact absurd hm (by decide)
    | 6, hm, _, _, _, _, _, _ => exact absurd hm (by decide)
    | 7, hm, _, _, _, _, _, _ => exact absurd hm (by decide)
    | 8, hm, _, _, _, _, _, _ => exact absurd hm (by decide)
    | 9, _, ho, h0, hf, hg, hfr, hdep =>
      simp only [gTA, gCZ, gCS, gSI] at ho
      subst ho
      refine ⟨rfl, ?_⟩
      have t0 : ρ (.tmp 7) = .pointer (some ⟨R, 0, none⟩) := hdep 4 7 (by kernel_rfl) (by kernel_rfl)
      have t1 : ρ (.tmp 11) = .func (.func 84) #[.pointer (some ⟨R, 0, none⟩)] #[] := hdep 8 11 (by kernel_rfl) (by kernel_rfl)
      have hd_ : d_ 11 = false := hf 11 (by decide) (by kernel_rfl)
      refine mark_enter (f := 83) (args := #[.pointer (some ⟨R, 0, none⟩), .int .i64 16, .func (.func 84) #[.pointer (some ⟨R, 0, none⟩)] #[]]) (by simp [go_sem, t0, t1, hcs, hfs]) (cha_call (rs := rsP) (M := mP) (q := 1) hC.1 h0 (by decide) (.inr (hg 3 (by decide) (by kernel_rfl))) (by decide) (fun k h1 h2 => intsL_con (most := 16) HD.out (by decide) k h1 h2) ?_)
      intro v u9 hV hC9 hB9
      refine ⟨⟨hC9, fun e => (hC.2.1 (by simpa [doneAt] using e)).but hB9 HOR.out, fun e => absurd (hd_.symm.trans (by simpa [doneAt] using e)) (by decide)⟩, fun _ => ?_, ?_⟩
      · exact ⟨doneC_eq _ _, fun _ => by have q := IntS.mono hV hC.1.size; rw [X1.out] at q; exact q⟩
      · intro j_ t_ hj_ hs
        match j_, hs with
        | 0, hs => exact hs
        | 1, hs => exact hs
        | 2, hs => exact hs
        | 3, hs => exact hs
        | 4, hs => exact hs
        | 5, hs => exact hs
        | 6, hs => exact hs
        | 7, hs => exact hs
        | 8, hs => exact hs
        | 9, hs => exact absurd (hs.1.symm.trans h0) (by decide)
        | 10, hs => exact absurd (hs.1.symm.trans h0) (by decide)
        | 11, hs => exact hs
        | _ + 12, _ => trivial
    | 10, hm, _, _, _, _, _, _ => exact absurd hm (by decide)
    | 11, _, ho, h0, hf, hg, hfr, hdep =>
      simp only [gTA, gCZ, gCS, gSI] at ho
      subst ho
      refine ⟨rfl, ?_⟩
      have tb : ρ (.tmp 2) = .pointer (some ⟨ob, 0, none⟩) := hfr 2 (by kernel_rfl)
      have q10 : d_ 9 = true ∧ (d_ 11 = false → ∃ q, IntS w.heap.size x1 w' q ∧ ρ (.tmp 13) = .agg #[.int .u8 x0, q]) := hdep 10 13 (by kernel_rfl) (by kernel_rfl)
      obtain ⟨zr, qr, t0⟩ := q10.2 h0
      have bx := hC.2.1 h0
      obtain ⟨ra, rk, e9, r2⟩ := IntS.open qr
      subst e9
      refine mark_storeC 45 (.tmp 2) (.tmp 13) rfl ob 45 #[.int .u8 0, .slice none 0 0] #[.int .u8 x0, .slice ra x1.length rk] tb t0 bx sizPrt rfl (by rw [← Array.all_toList]; rfl) ?_
      intro u9 hB9 hB8
      refine ⟨⟨hC.1.put (by decide) hB8 HWO.out HRO.out, fun e => absurd e (by rw [doneC_eq]; decide), fun _ => ⟨_, IntS.but qr hB8 bx (by decide), hB9⟩⟩, fun h => absurd rfl h, ?_⟩
      intro j_ t_ hj_ hs
      match j_, hs with
      | 0, hs => exact hs
      | 1, hs => exact hs
      | 2, hs => exact hs
      | 3, hs => exact hs
      | 4, hs => exact hs
      | 5, hs => exact hs
      | 6, hs => exact hs
      | 7, hs => exact hs
      | 8, hs => exact hs
      | 9, hs => exact ⟨(doneC_ne d_ (by decide)).trans hs.1, fun e => absurd e (by rw [doneC_eq]; decide)⟩
      | 10, hs => exact ⟨(doneC_ne d_ (by decide)).trans hs.1, fun e => absurd e (by rw [doneC_eq]; decide)⟩
      | 11, hs => exact hs
      | _ + 12, _ => trivial
    | n + 12, _, ho, _, _, _, _, _ => simp at ho
  · intro U8 V8x hC8 hS
    simp only [puts, put_none]
    simp only [Act.put, List.setIfInBounds_toArray, List.set_cons_zero, List.set_cons_succ]
    clear hS 
    obtain ⟨xs, k, e1, hA, hv⟩ := hC8.1.all (by decide)
    obtain ⟨q, q1, B9⟩ := hC8.2.2 (by decide)
    obtain ⟨ra, rk, rfl, r2⟩ := IntS.open q1
    have c0 := B9.cell (k := 0) rfl
    have c1 := B9.cell (k := 1) rfl
    simp only [List.getElem_toArray, List.getElem_cons_zero, List.getElem_cons_succ] at c0 c1
    have HA9 := hiddenC hA
    have R2 := hiddenC r2
    have E9 : Hid (prtR D j = .ok (⟨x0.toNat, x1⟩, k)) := by
      show _ = _
      rw [EO.out, e1]
      simp only
      rw [hv 0 (by decide), hv 1 (by decide), X0.out, X1.out]
    have XV : Hid ((x0.toNat : Int) = x0) := by
      have q := byte_val e1
      rw [hv 0 (by decide), X0.out] at q
      exact q
    clear hC8 B9 hA hv e1 q1 r2
    go_wp2
    refine bodyPost_ret (v := .agg #[.int .u8 x0, .slice ra x1.length rk]) (by simp [results, Try.results61, go_sem, c0, c1]) rfl ?_
    rw [← HPE.out, E9.out]
    refine ⟨_, rfl, ⟨(⟨x0.toNat, x1⟩, (ra, rk)), rfl, ?_, R2.out⟩, HA9.out⟩
    show Value.agg _ = Value.agg #[.int .u8 (x0.toNat : Int), _]
    rw [XV.out]
def rsL : List RdL := [cntL, cntL]
def mL (q : Nat) : Nat := [3, 7].getD q 0
def rsL2 : List RdL := [intsL 1024]
def mL2 (q : Nat) : Nat := [6].getD q 0
theorem lin_cha (D : List UInt8) (j : Nat) : linR D j = match chaR D rsL j with | .error x => .error x | .ok p => match chaR D rsL2 p.2 with | .error x => .error x | .ok q => .ok (⟨(p.1.getD 0 []).headD 0, (p.1.getD 1 []).headD 0, q.1.getD 0 []⟩, q.2) := by
  unfold linR thenR rsL rsL2
  simp only [chaR, cntL, intsL]
  cases cntR D j with
  | error x => rfl
  | ok p =>
    simp only
    cases cntR D p.2 with
    | error x => rfl
    | ok p2 =>
      simp only
      cases listR 1024 intR D p2.2 with
      | error x => rfl
      | ok p3 => rfl
set_option maxRecDepth 100000 in
set_option maxHeartbeats 8000000 in
theorem rdLine_any (R : Nat) (D : List UInt8) (j : Nat) (w : World) (h : BlkA 83 R w (rdV D j)) (hj : j ≤ D.length) (hD : D.length ≤ 4611686018427387904) :
    Calls Try.prog 63 #[.pointer (some ⟨R, 0, none⟩)] w (RdE R D w (linR D j) (fun a w' v => ∃ b : LinC × (Option Addr × Nat), Prod.fst b = a ∧ v = .agg #[.int .i64 b.1.base, .int .i64 b.1.size, .slice b.2.1 b.1.start.length b.2.2] ∧ linS w.heap.size b w')) := by
  obtain ⟨PE, hPE⟩ : ∃ Q : Ending → World → Prop, RdE R D w (linR D j) (fun a w' v => ∃ b : LinC × (Option Addr × Nat), Prod.fst b = a ∧ v = .agg #[.int .i64 b.1.base, .int .i64 b.1.size, .slice b.2.1 b.1.start.length b.2.2] ∧ linS w.heap.size b w') = Q := ⟨_, rfl⟩
  rw [hPE]
  have HPE := hiddenC hPE
  have HD := hiddenC hD
  have EO := hiddenC (lin_cha D j)
  have EO1 : Hid (∀ x, chaR D rsL j = .error x → linR D j = .error x) := fun x hx => by rw [EO.out, hx]
  obtain ⟨x0, hx0⟩ : ∃ x, (valR D rsL j 0).headD 0 = x := ⟨_, rfl⟩
  obtain ⟨x1, hx1⟩ : ∃ x, (valR D rsL j 1).headD 0 = x := ⟨_, rfl⟩
  have X0 := hiddenC hx0
  have X1 := hiddenC hx1
  have b1 := (Below.refl w.heap.size w).alloc (Nat.le_refl _) (.cells #[.int .i64 0, .int .i64 0, .slice none 0 0] 49)
  have g1 := blkA_new 49 w #[.int .i64 0, .int .i64 0, .slice none 0 0]
  have A0 := hiddenC ((RdA.refl h hj).below b1)
  have RL := h.lt
  have hsz : (w.alloc (.cells #[.int .i64 0, .int .i64 0, .slice none 0 0] 49)).heap.size = w.heap.size + 1 := World.size_alloc ..
  clear hPE h hj hD hx0 hx1 b1
  go_enter Try.func63, Try.ntmps63
  go_upto_region 1 with fail
  generalize w.alloc (.cells #[.int .i64 0, .int .i64 0, .slice none 0 0] 49) = W1 at *
  obtain ⟨ob, hob⟩ : ∃ x, w.heap.size = x := ⟨_, rfl⟩
  have HOR : Hid (ob ≠ R) := by show _ ≠ _; omega
  have HRO : Hid (R ≠ ob) := by show _ ≠ _; omega
  have HWO : Hid (w.heap.size ≤ ob) := Nat.le_of_eq hob
  have HZR : Hid (∀ g, W1.heap.size ≤ g → g ≠ R) := fun g hg => by omega
  have HZO : Hid (∀ g, W1.heap.size ≤ g → ob ≠ g) := fun g hg => by omega
  have G1 : Hid (BlkA 49 ob W1 #[.int .i64 0, .int .i64 0, .slice none 0 0]) := by have q := g1; rw [hob] at q; exact q
  have A1 := hiddenC (RdA.refl A0.out.box A0.out.le)
  rw [hob]
  clear hob RL g1 hsz
  refine wp_region_pan [3, 7, 10] (fun d_ i u z => match i with
      | 0 => z = .pointer (some ⟨R, 0, none⟩)
      | 1 => z = .pointer (some ⟨R, 0, none⟩)
      | 2 => z = .pointer (some ⟨R, 0, none⟩)
      | 3 => z = .int .i64 x0
      | 4 => z = .pointer (some ⟨R, 0, none⟩)
      | 5 => z = .pointer (some ⟨R, 0, none⟩)
      | 6 => z = .pointer (some ⟨R, 0, none⟩)
      | 7 => z = .int .i64 x1
      | 8 => z = .agg #[.int .i64 x0, .int .i64 x1]
      | 9 => (∃ g, z = .pointer (some ⟨g, 0, none⟩) ∧ W1.heap.size ≤ g ∧ (d_ 10 = false → BlkA 47 g u #[.int .i64 0, .int .i64 0]) ∧ (d_ 10 = true → BlkA 47 g u #[.int .i64 x0, .int .i64 x1]))
      | 10 => True
      | _ => True) (fun d_ u => ChaC R D j W1 rsL mL d_ u ∧ BlkA 49 ob u #[.int .i64 0, .int .i64 0, .slice none 0 0]) (Z := ChaZ R D j W1 rsL) ?_ (by kernel_rfl) (by kernel_rfl) (by kernel_rfl) ?_ ?_ ?_ ?_ ?_ ?_ (by kernel_rfl)
  · rintro c_ a' w' hd_ ⟨x, rfl, hx, hz⟩
    exact ⟨hd_, by rw [← HPE.out, EO1.out x hx]; exact ⟨rfl, A0.out.transZ hz⟩⟩
  · intro d_ i w_ v_ w' h hb_
    match i, h with
    | 0, h => exact h
    | 1, h => exact h
    | 2, h => exact h
    | 3, h => exact h
    | 4, h => exact h
    | 5, h => exact h
    | 6, h => exact h
    | 7, h => exact h
    | 8, h => exact h
    | 9, h => obtain ⟨g, e1, e2, e3, e4⟩ := h; exact ⟨g, e1, e2, fun e => (e3 e).below hb_, fun e => (e4 e).below hb_⟩
    | 10, h => exact h
    | _ + 11, _ => trivial
  · intro d_ u u' h hb_
    exact ⟨h.1.later hb_, h.2.below hb_⟩
  · exact ⟨ChaC.start A1.out, G1.out⟩
  · intro d_ i o ρ w' hm ho hf hg hC hcs hfs hfr hdep
    match i, hm, ho, hf, hg, hfr, hdep with
    | 0, _, ho, hf, hg, hfr, hdep =>
      simp only [gTA, gCZ, gSI] at ho
      subst ho
      refine ⟨fun _ => ?_, fun hw => absurd (show true = false from hw) (by decide)⟩
      have ts : ρ (.tmp 0) = .pointer (some ⟨R, 0, none⟩) := hfr 0 (by kernel_rfl)
      simp [go_sem, ts]
      exact ⟨Below.refl _ _, rfl⟩
    | 1, _, ho, hf, hg, hfr, hdep =>
      simp only [gTA, gCZ, gCS, gSI] at ho
      subst ho
      refine ⟨fun _ => ?_, fun hw => absurd (show true = false from hw) (by decide)⟩
      have d0 : ρ (.tmp 4) = .pointer (some ⟨R, 0, none⟩) := hdep 0 4 (by kernel_rfl) (by kernel_rfl)
      simp [go_sem, d0]
      exact ⟨Below.refl _ _, rfl⟩
    | 2, _, ho, hf, hg, hfr, hdep =>
      simp only [gTA, gCZ, gCS, gSI] at ho
      subst ho
      refine ⟨fun _ => ?_, fun hw => absurd (show true = false from hw) (by decide)⟩
      have d0 : ρ (.tmp 5) = .pointer (some ⟨R, 0, none⟩) := hdep 1 5 (by kernel_rfl) (by kernel_rfl)
      simp [go_sem, d0]
      exact ⟨Below.refl _ _, rfl⟩
    | 3, hm, _, _, _, _, _ => exact absurd hm (by decide)
    | 4, _, ho, hf, hg, hfr, hdep =>
      simp only [gTA, gCZ, gCS, gSI] at ho
      subst ho
      refine ⟨fun _ => ?_, fun hw => absurd (show true = false from hw) (by decide)⟩
      have ts : ρ (.tmp 0) = .pointer (some ⟨R, 0, none⟩) := hfr 0 (by kernel_rfl)
      simp [go_sem, ts]
      exact ⟨Below.refl _ _, rfl⟩
    | 5, _, ho, hf, hg, hfr, hdep =>
      simp only [gTA, gCZ, gCS, gSI] at ho
      subst ho
      refine ⟨fun _ => ?_, fun hw => absurd (show true = false from hw) (by decide)⟩
      have d0 : ρ (.tmp 8) = .pointer (some ⟨R, 0, none⟩) := hdep 4 8 (by kernel_rfl) (by kernel_rfl)
      simp [go_sem, d0]
      exact ⟨Below.refl _ _, rfl⟩
    | 6, _, ho, hf, hg, hfr, hdep =>
      simp only [gTA, gCZ, gCS, gSI] at ho
      subst ho
      refine ⟨fun _ => ?_, fun hw => absurd (show true = false from hw) (by decide)⟩
      have d0 : ρ (.tmp 9) = .pointer (some ⟨R, 0, none⟩) := hdep 5 9 (by kernel_rfl) (by kernel_rfl)
      simp [go_sem, d0]
      exact ⟨Below.refl _ _, rfl⟩
    | 7, hm, _, _, _, _, _ => exact absurd hm (by decide)
    | 8, _, ho, hf, hg, hfr, hdep =>
      simp only [gTA, gCZ, gCS, gSI] at ho
      subst ho
      refine ⟨fun _ => ?_, fun hw => absurd (show true = false from hw) (by decide)⟩
      have d0 : ρ (.tmp 7) = .int .i64 x0 := hdep 3 7 (by kernel_rfl) (by kernel_rfl)
      have d1 : ρ (.tmp 11) = .int .i64 x1 := hdep 7 11 (by kernel_rfl) (by kernel_rfl)
      simp [go_sem, d0, d1]
      exact ⟨Below.refl _ _, rfl⟩
    | 9, _, ho, hf, hg, hfr, hdep =>
      simp only [gTA, gCZ, gCS, gSI] at ho
      subst ho
      refine ⟨fun _ => ?_, fun hw => absurd (show true = false from hw) (by decide)⟩
      have hd_ : d_ 10 = false := hf 10 (by decide) (by kernel_rfl)
      simp [go_sem]
      exact ⟨(Below.refl _ _).alloc (Nat.le_refl _) _, _, rfl, hC.1.size, fun _ => blkA_new _ _ _, fun e => absurd (hd_.symm.trans e) (by decide)⟩
    | 10, hm, _, _, _, _, _ => exact absurd hm (by decide)
    | n + 11, _, ho, _, _, _, _ => simp at ho
  · intro d_ i o ρ w' hm ho h0 hf hg hC hcs hfs hfr hdep
    match i, hm, ho, h0, hf, hg, hfr, hdep with
    | 0, hm, _, _, _, _, _, _ => exact absurd hm (by decide)
    | 1, hm, _, _, _, _, _, _ => exact absurd hm (by decide)
    | 2, hm, _, _, _, _, _, _ => exact absurd hm (by decide)
    | 3, _, ho, h0, hf, hg, hfr, hdep =>
      simp only [gTA, gCZ, gCS, gSI] at ho
      subst ho
      refine ⟨rfl, ?_⟩
      have t0 : ρ (.tmp 6) = .pointer (some ⟨R, 0, none⟩) := hdep 2 6 (by kernel_rfl) (by kernel_rfl)
      refine mark_enter (f := 59) (args := #[.pointer (some ⟨R, 0, none⟩)]) (by simp [go_sem, t0, hfs]) (cha_call (rs := rsL) (M := mL) (q := 0) hC.1 h0 (by decide) (.inl rfl) (by decide) (fun k h1 h2 => cntL_con HD.out k h1 h2) ?_)
      intro v u9 hV hC9 hB9
      refine ⟨⟨hC9, hC.2.but hB9 HOR.out⟩, fun _ => ?_, ?_⟩
      · exact Eq.trans hV (by rw [X0.out])
      · intro j_ t_ hj_ hs
        match j_, hj_, hs with
        | 0, _, hs => exact hs
        | 1, _, hs => exact hs
        | 2, _, hs => exact hs
        | 3, _, hs => exact hs
        | 4, _, hs => exact hs
        | 5, _, hs => exact hs
        | 6, _, hs => exact hs
        | 7, _, hs => exact hs
        | 8, _, hs => exact hs
        | 9, _, hs => obtain ⟨g, e1, e2, e3, e4⟩ := hs; exact ⟨g, e1, e2, fun e => (e3 (by simpa [doneAt] using e)).but hB9 (HZR.out g e2), fun e => (e4 (by simpa [doneAt] using e)).but hB9 (HZR.out g e2)⟩
        | 10, _, hs => exact hs
        | _ + 11, _, _ => trivial
    | 4, hm, _, _, _, _, _, _ => exact absurd hm (by decide)
    | 5, hm, _, _, _, _, _, _ => exact absurd hm (by decide)
    | 6, hm, _, _, _, _, _, _ => exact absurd hm (by decide)
    | 7, _, ho, h0, hf, hg, hfr, hdep =>
      simp only [gTA, gCZ, gCS, gSI] at ho
      subst ho
      refine ⟨rfl, ?_⟩
      have t0 : ρ (.tmp 10) = .pointer (some ⟨R, 0, none⟩) := hdep 6 10 (by kernel_rfl) (by kernel_rfl)
      refine mark_enter (f := 59) (args := #[.pointer (some ⟨R, 0, none⟩)]) (by simp [go_sem, t0, hfs]) (cha_call (rs := rsL) (M := mL) (q := 1) hC.1 h0 (by decide) (.inr (hg 3 (by decide) (by kernel_rfl))) (by decide) (fun k h1 h2 => cntL_con HD.out k h1 h2) ?_)
      intro v u9 hV hC9 hB9
      refine ⟨⟨hC9, hC.2.but hB9 HOR.out⟩, fun _ => ?_, ?_⟩
      · exact Eq.trans hV (by rw [X1.out])
      · intro j_ t_ hj_ hs
        match j_, hj_, hs with
        | 0, _, hs => exact hs
        | 1, _, hs => exact hs
        | 2, _, hs => exact hs
        | 3, _, hs => exact hs
        | 4, _, hs => exact hs
        | 5, _, hs => exact hs
        | 6, _, hs => exact hs
        | 7, _, hs => exact hs
        | 8, _, hs => exact hs
        | 9, _, hs => obtain ⟨g, e1, e2, e3, e4⟩ := hs; exact ⟨g, e1, e2, fun e => (e3 (by simpa [doneAt] using e)).but hB9 (HZR.out g e2), fun e => (e4 (by simpa [doneAt] using e)).but hB9 (HZR.out g e2)⟩
        | 10, _, hs => exact hs
        | _ + 11, _, _ => trivial
    | 8, hm, _, _, _, _, _, _ => exact absurd hm (by decide)
    | 9, hm, _, _, _, _, _, _ => exact absurd hm (by decide)
    | 10, _, ho, h0, hf, hg, hfr, hdep =>
      simp only [gTA, gCZ, gCS, gSI] at ho
      subst ho
      refine ⟨rfl, ?_⟩
      have t0 : ρ (.tmp 12) = .agg #[.int .i64 x0, .int .i64 x1] := hdep 8 12 (by kernel_rfl) (by kernel_rfl)
      have tA : ∃ g, ρ (.tmp 3) = .pointer (some ⟨g, 0, none⟩) ∧ W1.heap.size ≤ g ∧ (d_ 10 = false → BlkA 47 g w' #[.int .i64 0, .int .i64 0]) ∧ (d_ 10 = true → BlkA 47 g w' #[.int .i64 x0, .int .i64 x1]) := hdep 9 3 (by kernel_rfl) (by kernel_rfl)
      obtain ⟨g, e1, e2, e3, e4⟩ := tA
      refine mark_storeC 47 (.tmp 3) (.tmp 12) rfl g 47 #[.int .i64 0, .int .i64 0] #[.int .i64 x0, .int .i64 x1] e1 t0 (e3 h0) sizReg rfl (by rw [← Array.all_toList]; rfl) ?_
      intro u9 hB9 hB8
      refine ⟨⟨hC.1.put (by decide) hB8 e2 (fun e => HZR.out g e2 e.symm), hC.2.but hB8 (HZO.out g e2)⟩, fun h => absurd rfl h, ?_⟩
      intro j_ t_ hj_ hs
      match j_, hj_, hs with
      | 0, _, hs => exact hs
      | 1, _, hs => exact hs
      | 2, _, hs => exact hs
      | 3, _, hs => exact hs
      | 4, _, hs => exact hs
      | 5, _, hs => exact hs
      | 6, _, hs => exact hs
      | 7, _, hs => exact hs
      | 8, _, hs => exact hs
      | 9, hj_, hs => obtain ⟨g2, f1, f2, f3, f4⟩ := hs; obtain rfl : 3 = t_ := (by simpa using hj_); obtain rfl : g = g2 := (by rw [e1] at f1; simpa using f1); exact ⟨g, e1, e2, fun e => absurd e (by rw [doneC_eq]; decide), fun _ => hB9⟩
      | 10, _, hs => exact hs
      | _ + 11, _, _ => trivial
    | n + 11, _, ho, _, _, _, _, _ => simp at ho
  · intro U8 V8x hC8 hS
    obtain ⟨g, eA, g2, -, g4⟩ : ∃ g, U8 9 = .pointer (some ⟨g, 0, none⟩) ∧ W1.heap.size ≤ g ∧ (allOf [3, 7, 10] 10 = false → BlkA 47 g V8x #[.int .i64 0, .int .i64 0]) ∧ (allOf [3, 7, 10] 10 = true → BlkA 47 g V8x #[.int .i64 x0, .int .i64 x1]) := hS 9 (by decide) (by intro h; cases h)
    simp only [puts, put_none, eA]
    simp only [Act.put, List.setIfInBounds_toArray, List.set_cons_zero, List.set_cons_succ]
    clear hS eA
    obtain ⟨xs, j2, e1, hA, hv⟩ := hC8.1.all (by decide)
    have A2 := hiddenC (A0.out.trans hA)
    have G2 := hiddenC (g4 (by decide))
    have O2 := hiddenC hC8.2
    have HGR := hiddenC (HZR.out g g2)
    have HGO : Hid (g ≠ ob) := fun e => HZO.out g g2 e.symm
    have EO2 : Hid (linR D j = match chaR D rsL2 j2 with | .error x => .error x | .ok q => .ok (⟨x0, x1, q.1.getD 0 []⟩, q.2)) := by
      show _ = _
      rw [EO.out, e1]
      simp only
      rw [hv 0 (by decide), hv 1 (by decide), X0.out, X1.out]
    obtain ⟨x2, hx2⟩ : ∃ x, valR D rsL2 j2 0 = x := ⟨_, rfl⟩
    have X2 := hiddenC hx2
    clear hC8 g2 g4 hA hv e1 hx2
    go_wp2
    refine wp_region_pan [6, 8] (fun d_ i u z => match i with
        | 0 => z = .agg #[.int .i64 x0, .int .i64 x1]
        | 1 => z = .pointer (some ⟨R, 0, none⟩)
        | 2 => z = .pointer (some ⟨R, 0, none⟩)
        | 3 => z = .pointer (some ⟨R, 0, none⟩)
        | 4 => z = .pointer (some ⟨R, 0, none⟩)
        | 5 => z = .func (.func 84) #[.pointer (some ⟨R, 0, none⟩)] #[]
        | 6 => (d_ 6 = true ∧ (d_ 8 = false → IntS w.heap.size x2 u z))
        | 7 => (d_ 6 = true ∧ (d_ 8 = false → ∃ q, IntS w.heap.size x2 u q ∧ z = .agg #[.int .i64 x0, .int .i64 x1, q]))
        | 8 => True
        | _ => True) (fun d_ u => ChaC R D j2 w rsL2 mL2 d_ u ∧ BlkA 47 g u #[.int .i64 x0, .int .i64 x1] ∧ (d_ 8 = false → BlkA 49 ob u #[.int .i64 0, .int .i64 0, .slice none 0 0]) ∧ (d_ 8 = true → ∃ q, IntS w.heap.size x2 u q ∧ BlkA 49 ob u #[.int .i64 x0, .int .i64 x1, q])) (Z := ChaZ R D j2 w rsL2) ?_ (by kernel_rfl) (by kernel_rfl) (by kernel_rfl) ?_ ?_ ?_ ?_ ?_ ?_ (by kernel_rfl)
    · rintro c_ a' w' hd_ ⟨x, rfl, hx, hz⟩
      exact ⟨hd_, by rw [← HPE.out, EO2.out, hx]; exact ⟨rfl, hz⟩⟩
    · intro d_ i w_ v_ w' h hb_
      match i, h with
      | 0, h => exact h
      | 1, h => exact h
      | 2, h => exact h
      | 3, h => exact h
      | 4, h => exact h
      | 5, h => exact h
      | 6, h => exact ⟨h.1, fun e => IntS.later (h.2 e) hb_⟩
      | 7, h => exact ⟨h.1, fun e => by obtain ⟨q, q1, q2⟩ := h.2 e; exact ⟨q, IntS.later q1 hb_, q2⟩⟩
      | 8, h => exact h
      | _ + 9, _ => trivial
    · intro d_ u u' h hb_
      exact ⟨h.1.later hb_, h.2.1.below hb_, fun e => (h.2.2.1 e).below hb_, fun e => by obtain ⟨q, q1, q2⟩ := h.2.2.2 e; exact ⟨q, IntS.later q1 hb_, q2.below hb_⟩⟩
    · exact ⟨ChaC.start A2.out, G2.out, fun _ => O2.out, fun e => absurd e (by decide)⟩
    · intro d_ i o ρ w' hm ho hf hg hC hcs hfs hfr hdep
      match i, hm, ho, hf, hg, hfr, hdep with
      | 0, _, ho, hf, hg, hfr, hdep =>
        simp only [gTA, gCZ, gSI] at ho
        subst ho
        refine ⟨fun _ => ?_, fun hw => absurd (show true = false from hw) (by decide)⟩
        have ts : ρ (.tmp 3) = .pointer (some ⟨g, 0, none⟩) := hfr 3 (by kernel_rfl)
        have c0 := hC.2.1.cell (k := 0) rfl
        have c1 := hC.2.1.cell (k := 1) rfl
        simp only [List.getElem_toArray, List.getElem_cons_zero, List.getElem_cons_succ] at c0 c1
        simp [go_sem, ts, c0, c1]
        exact ⟨Below.refl _ _, rfl⟩
      | 1, _, ho, hf, hg, hfr, hdep =>
        simp only [gTA, gCZ, gCS, gSI] at ho
        subst ho
        refine ⟨fun _ => ?_, fun hw => absurd (show true = false from hw) (by decide)⟩
        have ts : ρ (.tmp 0) = .pointer (some ⟨R, 0, none⟩) := hfr 0 (by kernel_rfl)
        simp [go_sem, ts]
        exact ⟨Below.refl _ _, rfl⟩
      | 2, _, ho, hf, hg, hfr, hdep =>
        simp only [gTA, gCZ, gCS, gSI] at ho
        subst ho
        refine ⟨fun _ => ?_, fun hw => absurd (show true = false from hw) (by decide)⟩
        have ts : ρ (.tmp 0) = .pointer (some ⟨R, 0, none⟩) := hfr 0 (by kernel_rfl)
        simp [go_sem, ts]
        exact ⟨Below.refl _ _, rfl⟩
      | 3, _, ho, hf, hg, hfr, hdep =>
        simp only [gTA, gCZ, gCS, gSI] at ho
        subst ho
        refine ⟨fun _ => ?_, fun hw => absurd (show true = false from hw) (by decide)⟩
        have d0 : ρ (.tmp 15) = .pointer (some ⟨R, 0, none⟩) := hdep 2 15 (by kernel_rfl) (by kernel_rfl)
        simp [go_sem, d0]
        exact ⟨Below.refl _ _, rfl⟩
      | 4, _, ho, hf, hg, hfr, hdep =>
        simp only [gTA, gCZ, gCS, gSI] at ho
        subst ho
        refine ⟨fun _ => ?_, fun hw => absurd (show true = false from hw) (by decide)⟩
        have d0 : ρ (.tmp 16) = .pointer (some ⟨R, 0, none⟩) := hdep 3 16 (by kernel_rfl) (by kernel_rfl)
        simp [go_sem, d0]
        exact ⟨Below.refl _ _, rfl⟩
      | 5, _, ho, hf, hg, hfr, hdep =>
        simp only [gTA, gCZ, gCS, gSI] at ho
        subst ho
        refine ⟨fun _ => ?_, fun hw => absurd (show true = false from hw) (by decide)⟩
        have d0 : ρ (.tmp 17) = .pointer (some ⟨R, 0, none⟩) := hdep 4 17 (by kernel_rfl) (by kernel_rfl)
        simp [go_sem, d0]
        exact ⟨Below.refl _ _, rfl⟩
      | 6, hm, _, _, _, _, _ => exact absurd hm (by decide)
      | 7, _, ho, hf, hg, hfr, hdep =>
        simp only [gTA, gCZ, gCS, gSI] at ho
        subst ho
        refine ⟨fun _ => ?_, fun hw => absurd (show true = false from hw) (by decide)⟩
        have t0 : ρ (.tmp 13) = .agg #[.int .i64 x0, .int .i64 x1] := hdep 0 13 (by kernel_rfl) (by kernel_rfl)
        have t1 : d_ 6 = true ∧ (d_ 8 = false → IntS w.heap.size x2 w' (ρ (.tmp 19))) := hdep 6 19 (by kernel_rfl) (by kernel_rfl)
        have hd_ : d_ 8 = false := hf 8 (by decide) (by kernel_rfl)
        have qr := t1.2 hd_
        obtain ⟨ra, rk, e9, r2⟩ := IntS.open qr
        rw [e9] at qr
        simp [go_sem, t0, e9]
        exact ⟨Below.refl _ _, t1.1, fun _ => ⟨_, qr, rfl⟩⟩
      | 8, hm, _, _, _, _, _ => exact absurd hm (by decide)
      | n + 9, _, ho, _, _, _, _ => simp at ho
    · intro d_ i o ρ w' hm ho h0 hf hg hC hcs hfs hfr hdep
      match i, hm, ho, h0, hf, hg, hfr, hdep with
      | 0, hm, _, _, _, _, _, _ => exact absurd hm (by decide)
      | 1, hm, _, _, _, _, _, _ => exact absurd hm (by decide)
      | 2, hm, _, _, _, _, _, _ => exact absurd hm (by decide)
      | 3, hm, _, _, _, _, _, _ => exact absurd hm (by decide)
      | 4, hm, _, _, _, _, _, _ => exact absurd hm (by decide)
      | 5, hm, _, _, _, _, _, _ => exact absurd hm (by decide)
      | 6, _, ho, h0, hf, hg, hfr, hdep =>
        simp only [gTA, gCZ, gCS, gSI] at ho
        subst ho
        refine ⟨rfl, ?_⟩
        have t0 : ρ (.tmp 14) = .pointer (some ⟨R, 0, none⟩) := hdep 1 14 (by kernel_rfl) (by kernel_rfl)
        have t1 : ρ (.tmp 18) = .func (.func 84) #[.pointer (some ⟨R, 0, none⟩)] #[] := hdep 5 18 (by kernel_rfl) (by kernel_rfl)
        have hd_ : d_ 8 = false := hf 8 (by decide) (by kernel_rfl)
        refine mark_enter (f := 83) (args := #[.pointer (some ⟨R, 0, none⟩), .int .i64 1024, .func (.func 84) #[.pointer (some ⟨R, 0, none⟩)] #[]]) (by simp [go_sem, t0, t1, hcs, hfs]) (cha_call (rs := rsL2) (M := mL2) (q := 0) hC.1 h0 (by decide) (.inl rfl) (by decide) (fun k h1 h2 => intsL_con (most := 1024) HD.out (by decide) k h1 h2) ?_)
        intro v u9 hV hC9 hB9
        refine ⟨⟨hC9, hC.2.1.but hB9 HGR.out, fun e => (hC.2.2.1 (by simpa [doneAt] using e)).but hB9 HOR.out, fun e => absurd (hd_.symm.trans (by simpa [doneAt] using e)) (by decide)⟩, fun _ => ?_, ?_⟩
        · exact ⟨doneC_eq _ _, fun _ => by have q := IntS.mono hV hC.1.size; rw [X2.out] at q; exact q⟩
        · intro j_ t_ hj_ hs
          match j_, hs with
          | 0, hs => exact hs
          | 1, hs => exact hs
          | 2, hs => exact hs
          | 3, hs => exact hs
          | 4, hs => exact hs
          | 5, hs => exact hs
          | 6, hs => exact absurd (hs.1.symm.trans h0) (by decide)
          | 7, hs => exact absurd (hs.1.symm.trans h0) (by decide)
          | 8, hs => exact hs
          | _ + 9, _ => trivial
      | 7, hm, _, _, _, _, _, _ => exact absurd hm (by decide)
      | 8, _, ho, h0, hf, hg, hfr, hdep =>
        simp only [gTA, gCZ, gCS, gSI] at ho
        subst ho
        refine ⟨rfl, ?_⟩
        have tb : ρ (.tmp 2) = .pointer (some ⟨ob, 0, none⟩) := hfr 2 (by kernel_rfl)
        have q10 : d_ 6 = true ∧ (d_ 8 = false → ∃ q, IntS w.heap.size x2 w' q ∧ ρ (.tmp 20) = .agg #[.int .i64 x0, .int .i64 x1, q]) := hdep 7 20 (by kernel_rfl) (by kernel_rfl)
        obtain ⟨zr, qr, t0⟩ := q10.2 h0
        have bx := hC.2.2.1 h0
        obtain ⟨ra, rk, e9, r2⟩ := IntS.open qr
        subst e9
        refine mark_storeC 49 (.tmp 2) (.tmp 20) rfl ob 49 #[.int .i64 0, .int .i64 0, .slice none 0 0] #[.int .i64 x0, .int .i64 x1, .slice ra x2.length rk] tb t0 bx sizLin rfl (by rw [← Array.all_toList]; rfl) ?_
        intro u9 hB9 hB8
        refine ⟨⟨hC.1.put (by decide) hB8 HWO.out HRO.out, hC.2.1.but hB8 HGO.out, fun e => absurd e (by rw [doneC_eq]; decide), fun _ => ⟨_, IntS.but qr hB8 bx (by decide), hB9⟩⟩, fun h => absurd rfl h, ?_⟩
        intro j_ t_ hj_ hs
        match j_, hs with
        | 0, hs => exact hs
        | 1, hs => exact hs
        | 2, hs => exact hs
        | 3, hs => exact hs
        | 4, hs => exact hs
        | 5, hs => exact hs
        | 6, hs => exact ⟨(doneC_ne d_ (by decide)).trans hs.1, fun e => absurd e (by rw [doneC_eq]; decide)⟩
        | 7, hs => exact ⟨(doneC_ne d_ (by decide)).trans hs.1, fun e => absurd e (by rw [doneC_eq]; decide)⟩
        | 8, hs => exact hs
        | _ + 9, _ => trivial
      | n + 9, _, ho, _, _, _, _, _ => simp at ho
    · intro U9 V9x hC9 hS
      simp only [puts, put_none]
      simp only [Act.put, List.setIfInBounds_toArray, List.set_cons_zero, List.set_cons_succ]
      clear hS 
      obtain ⟨xs, k, e1, hA, hv⟩ := hC9.1.all (by decide)
      obtain ⟨q, q1, B9⟩ := hC9.2.2.2 (by decide)
      obtain ⟨ra, rk, rfl, r2⟩ := IntS.open q1
      have c0 := B9.cell (k := 0) rfl
      have c1 := B9.cell (k := 1) rfl
      have c2 := B9.cell (k := 2) rfl
      simp only [List.getElem_toArray, List.getElem_cons_zero, List.getElem_cons_succ] at c0 c1 c2
      have HA9 := hiddenC hA
      have R2 := hiddenC r2
      have E9 : Hid (linR D j = .ok (⟨x0, x1, x2⟩, k)) := by
        show _ = _
        rw [EO2.out, e1]
        simp only
        rw [hv 0 (by decide), X2.out]
      clear hC9 B9 hA hv e1 q1 r2
      go_wp2
      refine bodyPost_ret (v := .agg #[.int .i64 x0, .int .i64 x1, .slice ra x2.length rk]) (by simp [results, Try.results63, go_sem, c0, c1, c2]) rfl ?_
      rw [← HPE.out, E9.out]
      exact ⟨_, rfl, ⟨(⟨x0, x1, x2⟩, (ra, rk)), rfl, rfl, R2.out⟩, HA9.out⟩
end Go.Proofs.Ytdjplmlfcolklaa

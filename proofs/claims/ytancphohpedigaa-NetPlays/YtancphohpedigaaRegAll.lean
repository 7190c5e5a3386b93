/- A region that draws its order and stores into a place that it lays itself, where some operations may come ahead of the store or behind it: each operation by a sentence, which may turn at the store. Whatever the program. -/
import Derived.Test.YtancphohpedigaaRegInv
namespace Go.Proofs.Ytancphohpedigaa
open Go Go.ChangeShapes Go.WideShapes Go.ChangeAt Go.RowKit

/-- All operations' slots: each but the store has one, all are different, and lie in the frame. -/
def slotsA (ops : Array Oper) (st size : Nat) : Bool :=
  (List.range ops.size).all fun i => match (ops[i]?).bind (·.dst) with
    | some t => decide (i ≠ st) && (decide (t < size) && (List.range ops.size).all fun j => decide (i = j) || decide ((ops[j]?).bind (·.dst) ≠ some t))
    | none => decide (i = st)

section
variable {P : Program} {ops : Array Oper} {S : Bool → Nat → World → Value → Prop} {W : World} {a0 : Act} {st : Nat}

theorem in_ops {i : Nat} {o : Oper} (h : ops[i]? = some o) : i < ops.size := by
  rcases Nat.lt_or_ge i ops.size with k | k
  · exact k
  · rw [Array.getElem?_eq_none k] at h; cases h

theorem slotsA_spec {size : Nat} (h : slotsA ops st size = true) {i : Nat} {o : Oper} (ho : ops[i]? = some o) :
    (i = st ∧ o.dst = none) ∨ (i ≠ st ∧ ∃ t, o.dst = some t ∧ t < size ∧ ∀ j oj, ops[j]? = some oj → oj.dst = some t → i = j) := by
  have h1 := List.all_eq_true.1 h i (List.mem_range.2 (in_ops ho))
  rw [ho] at h1
  cases hd : o.dst with
  | none =>
    simp only [Option.bind_some, hd, decide_eq_true_eq] at h1
    exact .inl ⟨h1, rfl⟩
  | some t =>
    simp only [Option.bind_some, hd, Bool.and_eq_true, decide_eq_true_eq] at h1
    refine .inr ⟨h1.1, t, rfl, h1.2.1, fun j oj hoj hd' => ?_⟩
    have h2 := List.all_eq_true.1 h1.2.2 j (List.mem_range.2 (in_ops hoj))
    simp only [hoj, Option.bind_some, hd', Bool.or_eq_true, decide_eq_true_eq] at h2
    rcases h2 with h2 | h2
    · exact h2
    · exact absurd rfl h2

/-- What holds at every moment of the region. -/
structure GoingA (ops : Array Oper) (st : Nat) (S : Bool → Nat → World → Value → Prop) (W : World) (a0 : Act) (listed : Array Bool) (a : Act) (w : World) : Prop where
  lsize : listed.size = ops.size
  closed : ∀ i o, ops[i]? = some o → listed.getD i false = true → ∀ e ∈ o.after, Region.binds .any e = true → listed.getD e.on false = true
  bel : Below W.heap.size W w
  defers : a.defers = a0.defers
  size : a.tmps.size = a0.tmps.size
  frame : ∀ t, (∀ (i : Nat) (o : Oper), ops[i]? = some o → o.dst ≠ some t) → slotOf a t = slotOf a0 t
  vals : ∀ i o t, ops[i]? = some o → o.dst = some t → listed.getD i false = true → S (listed.getD st false) i w (slotOf a t)

theorem closed_next {listed : Array Bool} {i : Nat} {oi : Oper} (hoi : ops[i]? = some oi) (hc : ∀ i o, ops[i]? = some o → listed.getD i false = true → ∀ e ∈ o.after, Region.binds .any e = true → listed.getD e.on false = true)
    (hall : ∀ e ∈ oi.after, Region.binds .any e = true → listed.getD e.on false = true) :
    ∀ j o, ops[j]? = some o → (listed.setIfInBounds i true).getD j false = true → ∀ e ∈ o.after, Region.binds .any e = true → (listed.setIfInBounds i true).getD e.on false = true := by
  intro j o ho hl e he hb
  by_cases hij : i = j
  · subst hij
    have eo : o = oi := Option.some.inj (ho.symm.trans hoi)
    subst eo
    exact getD_set_true (hall e he hb)
  · rw [getD_set_ne false hij] at hl
    exact getD_set_true (hc j o ho hl e he hb)

theorem GoingA.next {listed : Array Bool} {a : Act} {w w' : World} {i t : Nat} {o : Oper} {v : Value} (g : GoingA ops st S W a0 listed a w) (hslots : slotsA ops st a0.tmps.size = true)
    (mono : ∀ b i w v w', S b i w v → Below w.heap.size w w' → S b i w' v) (hall : ∀ e ∈ o.after, Region.binds .any e = true → listed.getD e.on false = true) (ho : ops[i]? = some o) (hd : o.dst = some t) (hb : Below w.heap.size w w') (hv : S (listed.getD st false) i w' v) :
    GoingA ops st S W a0 (listed.setIfInBounds i true) (a.put o.dst v) w' := by
  rcases slotsA_spec hslots ho with ⟨-, h0⟩ | ⟨hne, t', hd', hlt, huniq⟩
  · rw [h0] at hd; cases hd
  have ht : t' = t := Option.some.inj (hd'.symm.trans hd)
  subst ht
  refine ⟨by simpa using g.lsize, closed_next ho g.closed hall, g.bel.trans (hb.mono g.bel.size), ?_, ?_, ?_, ?_⟩
  · rw [hd]; exact g.defers
  · rw [hd]; simpa [Act.put] using g.size
  · intro u hu
    rw [hd, slot_put_other v (fun e => hu i o ho (by rw [hd, e]))]
    exact g.frame u hu
  · intro j oj u hoj hdj hl
    rw [getD_set_ne false hne, hd]
    by_cases hji : i = j
    · subst hji
      have e : oj = o := Option.some.inj (hoj.symm.trans ho)
      subst e
      have eu : u = t' := Option.some.inj (hdj.symm.trans hd)
      subst eu
      rw [slot_put_same v (by rw [g.size]; exact hlt)]
      exact hv
    · rw [getD_set_ne false hji] at hl
      have hne' : t' ≠ u := fun e => hji (huniq j oj hoj (by rw [e]; exact hdj))
      rw [slot_put_other v hne']
      exact mono _ _ _ _ _ (g.vals j oj u hoj hdj hl) hb

theorem GoingA.stored {listed : Array Bool} {a : Act} {w w' : World} {o : Oper} {v : Value} (g : GoingA ops st S W a0 listed a w) (hin : st < listed.size) (hun : listed.getD st true = false)
    (hall : ∀ e ∈ o.after, Region.binds .any e = true → listed.getD e.on false = true) (ho : ops[st]? = some o) (hd : o.dst = none) (hb : Below W.heap.size W w')
    (hv : ∀ i oi t, ops[i]? = some oi → oi.dst = some t → S false i w (slotOf a t) → S true i w' (slotOf a t)) :
    GoingA ops st S W a0 (listed.setIfInBounds st true) (a.put o.dst v) w' := by
  rw [hd]
  have h0 : listed.getD st false = false := by simp [hin] at hun ⊢; exact hun
  have h1 : (listed.setIfInBounds st true).getD st false = true := by simp [hin]
  refine ⟨by simpa using g.lsize, closed_next ho g.closed hall, hb, g.defers, g.size, g.frame, fun j oj u hoj hdj hl => ?_⟩
  rw [h1]
  by_cases hji : st = j
  · subst hji
    have e : oj = o := Option.some.inj (hoj.symm.trans ho)
    subst e
    rw [hd] at hdj; cases hdj
  · rw [getD_set_ne false hji] at hl
    have := g.vals j oj u hoj hdj hl
    rw [h0] at this
    exact hv j oj u hoj hdj this

theorem all_of_count {listed : Array Bool} (h : listed.toList.count false = 0) : ∀ i, i < listed.size → listed.getD i false = true := by
  intro i hi
  have hx : listed[i] ≠ false := fun e => by
    have hm : false ∈ listed.toList := by rw [← e]; simp
    have := List.count_pos_iff.2 hm
    omega
  simp [hi]
  simpa using hx

theorem GoingA.any {Q' : Exit → Act → World → Prop} (hslots : slotsA ops st a0.tmps.size = true) (hdeps : depsB .any ops ops.size = true)
    (mono : ∀ b i w v w', S b i w v → Below w.heap.size w w' → S b i w' v)
    (hstep : ∀ b i o a w, i ≠ st → ops[i]? = some o → (Region.waitsFor .any ops st i = true → b = false) → Below W.heap.size W w → (∀ t, (∀ (i : Nat) (o : Oper), ops[i]? = some o → o.dst ≠ some t) → slotOf a t = slotOf a0 t) →
      (∀ e ∈ o.after, Region.binds .any e = true → ∀ oj t, ops[e.on]? = some oj → oj.dst = some t → S b e.on w (slotOf a t)) → Region.wanted o (yielded ops a.tmps) = true ∧ stepUpon P w (S b i) ((execOp a.eval o).run P w))
    (hstore : ∀ o a w, ops[st]? = some o → Below W.heap.size W w →
      (∀ e ∈ o.after, Region.binds .any e = true → ∀ oj t, ops[e.on]? = some oj → oj.dst = some t → S false e.on w (slotOf a t)) → Region.wanted o (yielded ops a.tmps) = true ∧
        ∃ w', (execOp a.eval o).run P w = .ok .skip w' ∧ Below W.heap.size W w' ∧ ∀ i oi t, ops[i]? = some oi → oi.dst = some t → S false i w (slotOf a t) → S true i w' (slotOf a t))
    (hsto : ∀ o, ops[st]? = some o → o.dst = none)
    (hend : ∀ (listed : Array Bool) a w, GoingA ops st S W a0 listed a w → (∀ i, i < ops.size → listed.getD i false = true) → Q' .normal a w) :
    ∀ (f : Nat) (listed : Array Bool) (a : Act) (w : World), GoingA ops st S W a0 listed a w → listed.toList.count false = f → wpAny P .any ops Q' f listed a w := by
  intro f
  induction f with
  | zero =>
    intro listed a w g hc
    have hall := all_of_count hc
    refine ⟨List.eq_nil_iff_forall_not_mem.2 fun j hj => ?_, hend listed a w g (fun i hi => hall i (by rw [g.lsize]; exact hi))⟩
    obtain ⟨h1, oj, hoj, -⟩ := mem_ready.1 hj
    have hin : j < listed.size := by rw [g.lsize]; exact in_ops hoj
    have h2 := hall j hin
    simp [hin] at h1 h2
    rw [h1] at h2; cases h2
  | succ f ih =>
    intro listed a w g hc
    refine ⟨fun hnil => ?_, fun j hj => ?_⟩
    · exfalso
      have hmem : false ∈ listed.toList := List.count_pos_iff.1 (by omega)
      obtain ⟨k, hk, hk2⟩ := List.mem_iff_getElem.1 hmem
      have hks : k < listed.size := by simpa using hk
      obtain ⟨i0, hi0, hu0, hmin⟩ := least_of (p := fun i => listed.getD i true = false) listed.size ⟨k, hks, by simp [hks]; simpa using hk2⟩
      have hi0' : i0 < ops.size := by rw [← g.lsize]; exact hi0
      obtain ⟨o0, ho0⟩ : ∃ o, ops[i0]? = some o := ⟨ops[i0], Array.getElem?_eq_getElem hi0'⟩
      have hr0 : i0 ∈ Region.ready .any ops listed := by
        refine mem_ready.2 ⟨hu0, o0, ho0, fun e he hb => ?_⟩
        have hlt := deps_spec hdeps hi0' ho0 e he hb
        have hl : listed.getD e.on true = true := by
          cases hx : listed.getD e.on true with
          | true => rfl
          | false => exact absurd hx (hmin _ hlt)
        have hin : e.on < listed.size := by omega
        simpa [hin] using hl
      rw [hnil] at hr0; cases hr0
    · obtain ⟨hjun, oj, hoj, hall'⟩ := mem_ready.1 hj
      have hjin : j < listed.size := by rw [g.lsize]; exact in_ops hoj
      have hdep : ∀ e ∈ oj.after, Region.binds .any e = true → ∀ ok u, ops[e.on]? = some ok → ok.dst = some u → S (listed.getD st false) e.on w (slotOf a u) :=
        fun e he hb ok u hok hdk => g.vals e.on ok u hok hdk (hall' e he hb)
      by_cases hjst : j = st
      · subst hjst
        have h0 : listed.getD j false = false := by simp [hjin] at hjun ⊢; exact hjun
        rw [h0] at hdep
        obtain ⟨hw, w', hrun, hbw, hvs⟩ := hstore oj a w hoj g.bel hdep
        unfold wpOp
        simp only [hoj, hw, if_true]
        refine .inl ?_
        unfold Oper.wp
        rw [hrun]
        exact ih _ _ _ (g.stored hjin hjun hall' hoj (hsto oj hoj) hbw hvs) (count_set hjun hc)
      · rcases slotsA_spec hslots hoj with ⟨h0, -⟩ | ⟨-, t, hd, -, -⟩
        · exact absurd h0 hjst
        have hfree : Region.waitsFor .any ops st j = true → listed.getD st false = false := fun hwt => by
          obtain ⟨os, hos, e, he, hbd, hon⟩ := Region.waitsFor_spec hwt
          cases hx : listed.getD st false with
          | false => rfl
          | true =>
            have h1 := g.closed st os hos hx e he hbd
            rw [hon] at h1
            simp [hjin] at hjun h1
            rw [hjun] at h1; cases h1
        obtain ⟨hw, hs⟩ := hstep (listed.getD st false) j oj a w hjst hoj hfree g.bel g.frame hdep
        unfold wpOp
        simp only [hoj, hw, if_true]
        refine .inl ?_
        unfold Oper.wp
        generalize (execOp a.eval oj).run P w = r at *
        cases r with
        | ok nx w' =>
          cases nx <;> simp only [stepUpon] at hs
          case value v => exact ih _ _ _ (g.next hslots mono hall' hoj hd hs.1 hs.2) (count_set hjun hc)
          case enter fn args =>
            obtain ⟨rfl, hcall⟩ := hs
            exact hcall.mono fun e w'' ⟨v, he, hb, hv⟩ => by
              subst he
              exact ih _ _ _ (g.next hslots mono hall' hoj hd hb hv) (count_set hjun hc)
        | halt x w' => simp only [stepUpon] at hs

theorem puts_factsA (V : Nat → Value) {l : List Oper} {a : Act} (hslots : slotsA l.toArray st a.tmps.size = true) :
    ∀ m, m ≤ l.length → (puts V (l.take m) 0 a).tmps.size = a.tmps.size ∧ (puts V (l.take m) 0 a).defers = a.defers ∧
      (∀ (i : Nat) (o : Oper) t, i < m → l.toArray[i]? = some o → o.dst = some t → slotOf (puts V (l.take m) 0 a) t = V i) ∧
      (∀ t, (∀ (i : Nat) (o : Oper), i < m → l.toArray[i]? = some o → o.dst ≠ some t) → slotOf (puts V (l.take m) 0 a) t = slotOf a t) := by
  intro m
  induction m with
  | zero => intro _; exact ⟨rfl, rfl, fun i o t hi => absurd hi (Nat.not_lt_zero _), fun t _ => rfl⟩
  | succ m ih =>
    intro hm
    obtain ⟨h1, h2, h3, h4⟩ := ih (by omega)
    have hml : m < l.length := by omega
    have hom : l.toArray[m]? = some l[m] := by simp [hml]
    have e : l.take (m + 1) = l.take m ++ [l[m]] := by rw [List.take_add_one, List.getElem?_eq_getElem hml]; rfl
    have e2 : puts V (l.take (m + 1)) 0 a = (puts V (l.take m) 0 a).put l[m].dst (V m) := by
      rw [e, puts_snoc, List.length_take, Nat.min_eq_left (by omega), Nat.zero_add]
    rw [e2]
    rcases slotsA_spec hslots hom with ⟨-, hd⟩ | ⟨-, t, hd, hlt, huniq⟩
    · rw [hd]
      refine ⟨h1, h2, fun i o u hi ho hdo => ?_, fun u hu => h4 u (fun i o hi ho => hu i o (by omega) ho)⟩
      by_cases him : i = m
      · subst him
        have eo : o = l[i] := Option.some.inj (ho.symm.trans hom)
        subst eo
        rw [hd] at hdo; cases hdo
      · exact h3 i o u (by omega) ho hdo
    · rw [hd]
      refine ⟨by simpa [Act.put] using h1, h2, fun i o u hi ho hdo => ?_, fun u hu => ?_⟩
      · by_cases him : i = m
        · subst him
          have eo : o = l[i] := Option.some.inj (ho.symm.trans hom)
          subst eo
          have eu : u = t := Option.some.inj (hdo.symm.trans hd)
          subst eu
          exact slot_put_same _ (by rw [h1]; exact hlt)
        · have hne : t ≠ u := fun eu => him (huniq i o ho (by rw [eu]; exact hdo)).symm
          rw [slot_put_other _ hne]
          exact h3 i o u (by omega) ho hdo
      · have hne : t ≠ u := fun eu => hu m l[m] (by omega) hom (by rw [hd, eu])
        rw [slot_put_other _ hne]
        exact h4 u (fun i o hi ho => hu i o (by omega) ho)

theorem put_none (a : Act) (v : Value) : a.put none v = a := rfl

/-- THE LAW, in the form in which it is used. -/
theorem wp_region_all {id : Nat} {Q : Exit → Act → World → Prop} {a : Act} {w : World} {l : List Oper} (st : Nat) (S : Bool → Nat → World → Value → Prop) (hm : P.follows .mixedOrders = true)
    (hB : depsB .any l.toArray l.toArray.size = true) (hslots : slotsA l.toArray st a.tmps.size = true) (hplain : plainB l.toArray l.toArray.size = true) (hlt : st < l.length)
    (mono : ∀ b i w v w', S b i w v → Below w.heap.size w w' → S b i w' v)
    (hstep : ∀ b i o (ρ : Operand → Value) w', i ≠ st → l.toArray[i]? = some o → (Region.waitsFor .any l.toArray st i = true → b = false) → Below w.heap.size w w' → (∀ v, ρ (.const v) = v) → (∀ f, ρ (.func f) = .func (.func f) #[] #[]) →
      (∀ t, freeB l.toArray l.toArray.size t = true → ρ (.tmp t) = slotOf a t) → (∀ j t, Region.waitsFor .any l.toArray i j = true → (l.toArray[j]?).bind (·.dst) = some t → S b j w' (ρ (.tmp t))) → stepUpon P w' (S b i) ((execOp ρ o).run P w'))
    (hstore : ∀ o (ρ : Operand → Value) w', l.toArray[st]? = some o → Below w.heap.size w w' → (∀ j t, Region.waitsFor .any l.toArray st j = true → (l.toArray[j]?).bind (·.dst) = some t → S false j w' (ρ (.tmp t))) →
      ∃ w'', (execOp ρ o).run P w' = .ok .skip w'' ∧ Below w.heap.size w w'' ∧ ∀ j t, (l.toArray[j]?).bind (·.dst) = some t → S false j w' (ρ (.tmp t)) → S true j w'' (ρ (.tmp t)))
    (hend : ∀ (V : Nat → Value) w', Below w.heap.size w w' → (∀ i, i < l.length → i ≠ st → S true i w' (V i)) → Q .normal (puts V l 0 a) w') : (Code.region id l.toArray true).wp P Q a w := by
  have hwant : ∀ (i : Nat) (o : Oper) (a' : Act), l.toArray[i]? = some o → Region.wanted o (yielded l.toArray a'.tmps) = true := fun i o a' ho => by
    have h1 := List.all_eq_true.1 hplain i (List.mem_range.2 (in_ops ho))
    simp only [ho] at h1
    have h2 : o.guard = none := Option.isNone_iff_eq_none.1 h1
    simp [Region.wanted, h2]
  have hdeps : ∀ (i : Nat) (o : Oper) (b : Bool) (a' : Act) (w' : World), l.toArray[i]? = some o →
      (∀ e ∈ o.after, Region.binds .any e = true → ∀ oj t, l.toArray[e.on]? = some oj → oj.dst = some t → S b e.on w' (slotOf a' t)) →
      ∀ j t, Region.waitsFor .any l.toArray i j = true → (l.toArray[j]?).bind (·.dst) = some t → S b j w' (a'.eval (.tmp t)) := fun i o b a' w' ho hdep j t hw hj => by
    obtain ⟨oi, hoi, e, he, hbd, hon⟩ := Region.waitsFor_spec hw
    have eo : oi = o := Option.some.inj (hoi.symm.trans ho)
    subst eo
    subst hon
    cases hoj : l.toArray[e.on]? with
    | none => rw [hoj] at hj; simp at hj
    | some oj =>
      rw [hoj] at hj
      exact hdep e he hbd oj t hoj (by simpa using hj)
  refine wp_region_any hm ?_
  have hdrew : Below w.heap.size w { w with drawn := w.drawn + 1 } := (Below.refl _ _).drew
  refine GoingA.any (W := w) (a0 := a) (S := S) (st := st) hslots hB mono ?_ ?_ ?_ ?_ l.toArray.size _ a _ ⟨by simp, ?_, hdrew, rfl, rfl, fun _ _ => rfl, ?_⟩ (by simp)
  · intro b i o a' w' hi ho hfree hb hfr hdep
    refine ⟨hwant i o a' ho, hstep b i o a'.eval w' hi ho hfree hb (fun _ => rfl) (fun _ => rfl) (fun t ht => ?_) (hdeps i o b a' w' ho hdep)⟩
    refine hfr t fun k ok hok hdk => ?_
    have h1 := List.all_eq_true.1 ht k (List.mem_range.2 (in_ops hok))
    simp only [hok, Option.bind_some, decide_eq_true_eq] at h1
    exact h1 hdk
  · intro o a' w' ho hb hdep
    obtain ⟨w'', h1, h2, h3⟩ := hstore o a'.eval w' ho hb (hdeps st o false a' w' ho hdep)
    exact ⟨hwant st o a' ho, w'', h1, h2, fun i oi t hoi hdi hs => h3 i t (by rw [hoi]; exact hdi) hs⟩
  · intro o ho
    rcases slotsA_spec hslots ho with ⟨-, h0⟩ | ⟨hne, -⟩
    · exact h0
    · exact absurd rfl hne
  · intro listed a' w' g hall
    have hst : listed.getD st false = true := hall st (by simpa using hlt)
    have key : a' = puts (fun i => match (l.toArray[i]?).bind (·.dst) with | some t => slotOf a' t | none => undef) l 0 a := by
      obtain ⟨h1, h2, h3, h4⟩ := puts_factsA (fun i => match (l.toArray[i]?).bind (·.dst) with | some t => slotOf a' t | none => undef) hslots l.length (Nat.le_refl _)
      rw [List.take_length] at h1 h2 h3 h4
      refine act_eq (g.size.trans h1.symm) (g.defers.trans h2.symm) fun t _ => ?_
      by_cases hx : ∃ (i : Nat) (o : Oper), l.toArray[i]? = some o ∧ o.dst = some t
      · obtain ⟨i, o, ho, hd⟩ := hx
        rw [h3 i o t (by simpa using in_ops ho) ho hd]
        simp only [ho, Option.bind_some, hd]
      · have hx' : ∀ (i : Nat) (o : Oper), l.toArray[i]? = some o → o.dst ≠ some t := fun i o ho hd => hx ⟨i, o, ho, hd⟩
        rw [h4 t (fun i o _ ho => hx' i o ho), g.frame t hx']
    rw [key]
    refine hend _ w' g.bel fun i hi hne => ?_
    have hio : l.toArray[i]? = some l[i] := by simp [hi]
    rcases slotsA_spec hslots hio with ⟨h0, -⟩ | ⟨-, t, hd, -, -⟩
    · exact absurd h0 hne
    simp only [hio, Option.bind_some, hd]
    have := g.vals i l[i] t hio hd (hall i (by simpa using hi))
    rw [hst] at this
    exact this
  · intro i o ho hl
    rw [getD_replicate_false] at hl
    cases hl
  · intro i o t ho hd hl
    rw [getD_replicate_false] at hl
    cases hl
end
end Go.Proofs.Ytancphohpedigaa

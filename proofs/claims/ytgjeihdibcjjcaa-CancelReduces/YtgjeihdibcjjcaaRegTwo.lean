/- A region that draws its order and has up to two stores, the second behind the first, into places of the caller's own: each operation by a sentence, which may turn at a store; of the world a sentence a phase. Whatever the program. -/
import Derived.Test.YtgjeihdibcjjcaaRegAll
namespace Go.Proofs.Ytgjeihdibcjjcaa
open Go Go.ChangeShapes Go.WideShapes Go.ChangeAt Go.RowKit

/-- All operations' slots: each but the stores has one, all are different, and lie in the frame. -/
def slotsT (ops : Array Oper) (s1 s2 size : Nat) : Bool :=
  (List.range ops.size).all fun i => match (ops[i]?).bind (·.dst) with
    | some t => decide (i ≠ s1) && (decide (i ≠ s2) && (decide (t < size) && (List.range ops.size).all fun j => decide (i = j) || decide ((ops[j]?).bind (·.dst) ≠ some t)))
    | none => decide (i = s1) || decide (i = s2)

section
variable {P : Program} {ops : Array Oper} {S : Bool → Bool → Nat → World → Value → Prop} {C : Bool → Bool → World → Prop} {a0 : Act} {s1 s2 : Nat}

theorem slotsT_spec {size : Nat} (h : slotsT ops s1 s2 size = true) {i : Nat} {o : Oper} (ho : ops[i]? = some o) :
    ((i = s1 ∨ i = s2) ∧ o.dst = none) ∨ (i ≠ s1 ∧ i ≠ s2 ∧ ∃ t, o.dst = some t ∧ t < size ∧ ∀ j oj, ops[j]? = some oj → oj.dst = some t → i = j) := by
  have h1 := List.all_eq_true.1 h i (List.mem_range.2 (in_ops ho))
  rw [ho] at h1
  cases hd : o.dst with
  | none =>
    simp only [Option.bind_some, hd, Bool.or_eq_true, decide_eq_true_eq] at h1
    exact .inl ⟨h1, rfl⟩
  | some t =>
    simp only [Option.bind_some, hd, Bool.and_eq_true, decide_eq_true_eq] at h1
    refine .inr ⟨h1.1, h1.2.1, t, rfl, h1.2.2.1, fun j oj hoj hd' => ?_⟩
    have h2 := List.all_eq_true.1 h1.2.2.2 j (List.mem_range.2 (in_ops hoj))
    simp only [hoj, Option.bind_some, hd', Bool.or_eq_true, decide_eq_true_eq] at h2
    rcases h2 with h2 | h2
    · exact h2
    · exact absurd rfl h2

/-- What holds at every moment of the region. -/
structure GoingT (ops : Array Oper) (s1 s2 : Nat) (S : Bool → Bool → Nat → World → Value → Prop) (C : Bool → Bool → World → Prop) (a0 : Act) (listed : Array Bool) (a : Act) (w : World) : Prop where
  lsize : listed.size = ops.size
  closed : ∀ i o, ops[i]? = some o → listed.getD i false = true → ∀ e ∈ o.after, Region.binds .any e = true → listed.getD e.on false = true
  bel : C (listed.getD s1 false) (listed.getD s2 false) w
  defers : a.defers = a0.defers
  size : a.tmps.size = a0.tmps.size
  frame : ∀ t, (∀ (i : Nat) (o : Oper), ops[i]? = some o → o.dst ≠ some t) → slotOf a t = slotOf a0 t
  vals : ∀ i o t, ops[i]? = some o → o.dst = some t → listed.getD i false = true → S (listed.getD s1 false) (listed.getD s2 false) i w (slotOf a t)

theorem GoingT.next {listed : Array Bool} {a : Act} {w w' : World} {i t : Nat} {o : Oper} {v : Value} (g : GoingT ops s1 s2 S C a0 listed a w) (hslots : slotsT ops s1 s2 a0.tmps.size = true)
    (mono : ∀ b c i w v w', S b c i w v → Below w.heap.size w w' → S b c i w' v) (monoC : ∀ b c w w', C b c w → Below w.heap.size w w' → C b c w')
    (hall : ∀ e ∈ o.after, Region.binds .any e = true → listed.getD e.on false = true) (ho : ops[i]? = some o) (hd : o.dst = some t) (hb : Below w.heap.size w w') (hv : S (listed.getD s1 false) (listed.getD s2 false) i w' v) :
    GoingT ops s1 s2 S C a0 (listed.setIfInBounds i true) (a.put o.dst v) w' := by
  rcases slotsT_spec hslots ho with ⟨-, h0⟩ | ⟨hn1, hn2, t', hd', hlt, huniq⟩
  · rw [h0] at hd; cases hd
  have ht : t' = t := Option.some.inj (hd'.symm.trans hd)
  subst ht
  refine ⟨by simpa using g.lsize, closed_next ho g.closed hall, ?_, ?_, ?_, ?_, ?_⟩
  · rw [getD_set_ne false hn1, getD_set_ne false hn2]
    exact monoC _ _ _ _ g.bel hb
  · rw [hd]; exact g.defers
  · rw [hd]; simpa [Act.put] using g.size
  · intro u hu
    rw [hd, slot_put_other v (fun e => hu i o ho (by rw [hd, e]))]
    exact g.frame u hu
  · intro j oj u hoj hdj hl
    rw [getD_set_ne false hn1, getD_set_ne false hn2, hd]
    by_cases hji : i = j
    · subst hji
      have e : oj = o := Option.some.inj (hoj.symm.trans ho)
      subst e
      have eu : u = t' := Option.some.inj (hdj.symm.trans hd)
      subst eu
      rw [slot_put_same v (by rw [g.size]; exact hlt)]
      exact hv
    · rw [getD_set_ne false hji] at hl
      have hne' : t' ≠ u := fun e => hji (huniq j oj hoj (by rw [e]; exact hdj))
      rw [slot_put_other v hne']
      exact mono _ _ _ _ _ _ (g.vals j oj u hoj hdj hl) hb

/-- A store done: the one phase turns. -/
theorem GoingT.stored {listed : Array Bool} {a : Act} {w w' : World} {i : Nat} {o : Oper} {v : Value} (g : GoingT ops s1 s2 S C a0 listed a w)
    (hall : ∀ e ∈ o.after, Region.binds .any e = true → listed.getD e.on false = true) (ho : ops[i]? = some o) (hd : o.dst = none)
    (hC : C ((listed.setIfInBounds i true).getD s1 false) ((listed.setIfInBounds i true).getD s2 false) w')
    (hv : ∀ j oj t, ops[j]? = some oj → oj.dst = some t → S (listed.getD s1 false) (listed.getD s2 false) j w (slotOf a t) → S ((listed.setIfInBounds i true).getD s1 false) ((listed.setIfInBounds i true).getD s2 false) j w' (slotOf a t)) :
    GoingT ops s1 s2 S C a0 (listed.setIfInBounds i true) (a.put o.dst v) w' := by
  rw [hd]
  refine ⟨by simpa using g.lsize, closed_next ho g.closed hall, hC, g.defers, g.size, g.frame, fun j oj u hoj hdj hl => ?_⟩
  by_cases hji : i = j
  · subst hji
    have e : oj = o := Option.some.inj (hoj.symm.trans ho)
    subst e
    rw [hd] at hdj; cases hdj
  · rw [getD_set_ne false hji] at hl
    exact hv j oj u hoj hdj (g.vals j oj u hoj hdj hl)

theorem listed_at {listed : Array Bool} {i : Nat} (h : i < listed.size) : (listed.setIfInBounds i true).getD i false = true := by simp [h]

theorem GoingT.any {Q' : Exit → Act → World → Prop} (hslots : slotsT ops s1 s2 a0.tmps.size = true) (hdeps : depsB .any ops ops.size = true) (hs12 : s1 ≠ s2) (hw12 : Region.waitsFor .any ops s2 s1 = true)
    (mono : ∀ b c i w v w', S b c i w v → Below w.heap.size w w' → S b c i w' v) (monoC : ∀ b c w w', C b c w → Below w.heap.size w w' → C b c w')
    (hstep : ∀ b c i o a w, i ≠ s1 → i ≠ s2 → ops[i]? = some o → (Region.waitsFor .any ops s1 i = true → b = false) → (Region.waitsFor .any ops s2 i = true → c = false) → (Region.waitsFor .any ops i s1 = true → b = true) → C b c w → (∀ t, (∀ (i : Nat) (o : Oper), ops[i]? = some o → o.dst ≠ some t) → slotOf a t = slotOf a0 t) →
      (∀ e ∈ o.after, Region.binds .any e = true → ∀ oj t, ops[e.on]? = some oj → oj.dst = some t → S b c e.on w (slotOf a t)) → Region.wanted o (yielded ops a.tmps) = true ∧ stepUpon P w (S b c i) ((execOp a.eval o).run P w))
    (hstore1 : ∀ o a w, ops[s1]? = some o → C false false w →
      (∀ e ∈ o.after, Region.binds .any e = true → ∀ oj t, ops[e.on]? = some oj → oj.dst = some t → S false false e.on w (slotOf a t)) → Region.wanted o (yielded ops a.tmps) = true ∧
        ∃ w', (execOp a.eval o).run P w = .ok .skip w' ∧ C true false w' ∧ ∀ i oi t, ops[i]? = some oi → oi.dst = some t → S false false i w (slotOf a t) → S true false i w' (slotOf a t))
    (hstore2 : ∀ o a w, ops[s2]? = some o → C true false w →
      (∀ e ∈ o.after, Region.binds .any e = true → ∀ oj t, ops[e.on]? = some oj → oj.dst = some t → S true false e.on w (slotOf a t)) → Region.wanted o (yielded ops a.tmps) = true ∧
        ∃ w', (execOp a.eval o).run P w = .ok .skip w' ∧ C true true w' ∧ ∀ i oi t, ops[i]? = some oi → oi.dst = some t → S true false i w (slotOf a t) → S true true i w' (slotOf a t))
    (hend : ∀ (listed : Array Bool) a w, GoingT ops s1 s2 S C a0 listed a w → (∀ i, i < ops.size → listed.getD i false = true) → Q' .normal a w) :
    ∀ (f : Nat) (listed : Array Bool) (a : Act) (w : World), GoingT ops s1 s2 S C a0 listed a w → listed.toList.count false = f → wpAny P .any ops Q' f listed a w := by
  intro f
  induction f with
  | zero =>
    intro listed a w g hc
    have hall := all_of_count hc
    refine ⟨List.eq_nil_iff_forall_not_mem.2 fun j hj => ?_, hend listed a w g (fun i hi => hall i (by rw [g.lsize]; exact hi))⟩
    obtain ⟨h1, oj, hoj, -⟩ := mem_ready.1 hj
    have hin : j < listed.size := by rw [g.lsize]; exact in_ops hoj
    have h2 := hall j hin
    simp [hin] at h1 h2
    rw [h1] at h2; cases h2
  | succ f ih =>
    intro listed a w g hc
    refine ⟨fun hnil => ?_, fun j hj => ?_⟩
    · exfalso
      have hmem : false ∈ listed.toList := List.count_pos_iff.1 (by omega)
      obtain ⟨k, hk, hk2⟩ := List.mem_iff_getElem.1 hmem
      have hks : k < listed.size := by simpa using hk
      obtain ⟨i0, hi0, hu0, hmin⟩ := least_of (p := fun i => listed.getD i true = false) listed.size ⟨k, hks, by simp [hks]; simpa using hk2⟩
      have hi0' : i0 < ops.size := by rw [← g.lsize]; exact hi0
      obtain ⟨o0, ho0⟩ : ∃ o, ops[i0]? = some o := ⟨ops[i0], Array.getElem?_eq_getElem hi0'⟩
      have hr0 : i0 ∈ Region.ready .any ops listed := by
        refine mem_ready.2 ⟨hu0, o0, ho0, fun e he hb => ?_⟩
        have hlt := deps_spec hdeps hi0' ho0 e he hb
        have hl : listed.getD e.on true = true := by
          cases hx : listed.getD e.on true with
          | true => rfl
          | false => exact absurd hx (hmin _ hlt)
        have hin : e.on < listed.size := by omega
        simpa [hin] using hl
      rw [hnil] at hr0; cases hr0
    · obtain ⟨hjun, oj, hoj, hall'⟩ := mem_ready.1 hj
      have hjin : j < listed.size := by rw [g.lsize]; exact in_ops hoj
      have hj0 : listed.getD j false = false := by simp [hjin] at hjun ⊢; exact hjun
      have hdep : ∀ e ∈ oj.after, Region.binds .any e = true → ∀ ok u, ops[e.on]? = some ok → ok.dst = some u → S (listed.getD s1 false) (listed.getD s2 false) e.on w (slotOf a u) :=
        fun e he hb ok u hok hdk => g.vals e.on ok u hok hdk (hall' e he hb)
      have hwaits : ∀ s, Region.waitsFor .any ops s j = true → listed.getD s false = false := fun s hwt => by
        obtain ⟨os, hos, e, he, hbd, hon⟩ := Region.waitsFor_spec hwt
        cases hx : listed.getD s false with
        | false => rfl
        | true =>
          have h1 := g.closed s os hos hx e he hbd
          rw [hon] at h1
          rw [hj0] at h1; cases h1
      have hgot : ∀ s, Region.waitsFor .any ops j s = true → listed.getD s false = true := fun s hwt => by
        obtain ⟨os, hos, e, he, hbd, hon⟩ := Region.waitsFor_spec hwt
        have eo : os = oj := Option.some.inj (hos.symm.trans hoj)
        subst eo
        have := hall' e he hbd
        rw [hon] at this; exact this
      by_cases hj1 : j = s1
      · subst hj1
        have h2 : listed.getD s2 false = false := hwaits s2 hw12
        have hC := g.bel
        have G := g
        rw [hj0, h2] at hdep hC
        obtain ⟨hw, w', hrun, hbw, hvs⟩ := hstore1 oj a w hoj hC hdep
        have e1 : (listed.setIfInBounds j true).getD j false = true := listed_at hjin
        have e2 : (listed.setIfInBounds j true).getD s2 false = false := by rw [getD_set_ne false hs12]; exact h2
        unfold wpOp
        simp only [hoj, hw, if_true]
        refine .inl ?_
        unfold Oper.wp
        rw [hrun]
        have hd : oj.dst = none := by
          rcases slotsT_spec hslots hoj with ⟨-, h0⟩ | ⟨hn, -⟩
          · exact h0
          · exact absurd rfl hn
        refine ih _ _ _ (G.stored hall' hoj hd (by rw [e1, e2]; exact hbw) ?_) (count_set hjun hc)
        rw [e1, e2, hj0, h2]
        exact hvs
      · by_cases hj2 : j = s2
        · subst hj2
          have h1 : listed.getD s1 false = true := hgot s1 hw12
          have hC := g.bel
          have G := g
          rw [hj0, h1] at hdep hC
          obtain ⟨hw, w', hrun, hbw, hvs⟩ := hstore2 oj a w hoj hC hdep
          have e1 : (listed.setIfInBounds j true).getD j false = true := listed_at hjin
          have e2 : (listed.setIfInBounds j true).getD s1 false = true := by rw [getD_set_ne false hj1]; exact h1
          unfold wpOp
          simp only [hoj, hw, if_true]
          refine .inl ?_
          unfold Oper.wp
          rw [hrun]
          have hd : oj.dst = none := by
            rcases slotsT_spec hslots hoj with ⟨-, h0⟩ | ⟨-, hn, -⟩
            · exact h0
            · exact absurd rfl hn
          refine ih _ _ _ (G.stored hall' hoj hd (by rw [e1, e2]; exact hbw) ?_) (count_set hjun hc)
          rw [e1, e2, hj0, h1]
          exact hvs
        · rcases slotsT_spec hslots hoj with ⟨h0, -⟩ | ⟨-, -, t, hd, -, -⟩
          · rcases h0 with h0 | h0
            · exact absurd h0 hj1
            · exact absurd h0 hj2
          obtain ⟨hw, hs⟩ := hstep (listed.getD s1 false) (listed.getD s2 false) j oj a w hj1 hj2 hoj (hwaits s1) (hwaits s2) (hgot s1) g.bel g.frame hdep
          unfold wpOp
          simp only [hoj, hw, if_true]
          refine .inl ?_
          unfold Oper.wp
          generalize (execOp a.eval oj).run P w = r at *
          cases r with
          | ok nx w' =>
            cases nx <;> simp only [stepUpon] at hs
            case value v => exact ih _ _ _ (g.next hslots mono monoC hall' hoj hd hs.1 hs.2) (count_set hjun hc)
            case enter fn args =>
              obtain ⟨rfl, hcall⟩ := hs
              exact hcall.mono fun e w'' ⟨v, he, hb, hv⟩ => by
                subst he
                exact ih _ _ _ (g.next hslots mono monoC hall' hoj hd hb hv) (count_set hjun hc)
          | halt x w' => simp only [stepUpon] at hs

theorem puts_factsT (V : Nat → Value) {l : List Oper} {a : Act} (hslots : slotsT l.toArray s1 s2 a.tmps.size = true) :
    ∀ m, m ≤ l.length → (puts V (l.take m) 0 a).tmps.size = a.tmps.size ∧ (puts V (l.take m) 0 a).defers = a.defers ∧
      (∀ (i : Nat) (o : Oper) t, i < m → l.toArray[i]? = some o → o.dst = some t → slotOf (puts V (l.take m) 0 a) t = V i) ∧
      (∀ t, (∀ (i : Nat) (o : Oper), i < m → l.toArray[i]? = some o → o.dst ≠ some t) → slotOf (puts V (l.take m) 0 a) t = slotOf a t) := by
  intro m
  induction m with
  | zero => intro _; exact ⟨rfl, rfl, fun i o t hi => absurd hi (Nat.not_lt_zero _), fun t _ => rfl⟩
  | succ m ih =>
    intro hm
    obtain ⟨h1, h2, h3, h4⟩ := ih (by omega)
    have hml : m < l.length := by omega
    have hom : l.toArray[m]? = some l[m] := by simp [hml]
    have e : l.take (m + 1) = l.take m ++ [l[m]] := by rw [List.take_add_one, List.getElem?_eq_getElem hml]; rfl
    have e2 : puts V (l.take (m + 1)) 0 a = (puts V (l.take m) 0 a).put l[m].dst (V m) := by
      rw [e, puts_snoc, List.length_take, Nat.min_eq_left (by omega), Nat.zero_add]
    rw [e2]
    rcases slotsT_spec hslots hom with ⟨-, hd⟩ | ⟨-, -, t, hd, hlt, huniq⟩
    · rw [hd]
      refine ⟨h1, h2, fun i o u hi ho hdo => ?_, fun u hu => h4 u (fun i o hi ho => hu i o (by omega) ho)⟩
      by_cases him : i = m
      · subst him
        have eo : o = l[i] := Option.some.inj (ho.symm.trans hom)
        subst eo
        rw [hd] at hdo; cases hdo
      · exact h3 i o u (by omega) ho hdo
    · rw [hd]
      refine ⟨by simpa [Act.put] using h1, h2, fun i o u hi ho hdo => ?_, fun u hu => ?_⟩
      · by_cases him : i = m
        · subst him
          have eo : o = l[i] := Option.some.inj (ho.symm.trans hom)
          subst eo
          have eu : u = t := Option.some.inj (hdo.symm.trans hd)
          subst eu
          exact slot_put_same _ (by rw [h1]; exact hlt)
        · have hne : t ≠ u := fun eu => him (huniq i o ho (by rw [eu]; exact hdo)).symm
          rw [slot_put_other _ hne]
          exact h3 i o u (by omega) ho hdo
      · have hne : t ≠ u := fun eu => hu m l[m] (by omega) hom (by rw [hd, eu])
        rw [slot_put_other _ hne]
        exact h4 u (fun i o hi ho => hu i o (by omega) ho)

/-- THE LAW, in the form in which it is used. -/
theorem wp_region_two {id : Nat} {Q : Exit → Act → World → Prop} {a : Act} {w : World} {l : List Oper} (s1 s2 : Nat) (S : Bool → Bool → Nat → World → Value → Prop) (C : Bool → Bool → World → Prop) (hm : P.follows .mixedOrders = true)
    (hB : depsB .any l.toArray l.toArray.size = true) (hslots : slotsT l.toArray s1 s2 a.tmps.size = true) (hplain : plainB l.toArray l.toArray.size = true) (hlt1 : s1 < l.length) (hlt2 : s2 < l.length) (hs12 : s1 ≠ s2) (hw12 : Region.waitsFor .any l.toArray s2 s1 = true)
    (mono : ∀ b c i w v w', S b c i w v → Below w.heap.size w w' → S b c i w' v) (monoC : ∀ b c w w', C b c w → Below w.heap.size w w' → C b c w') (hC : C false false w)
    (hstep : ∀ b c i o (ρ : Operand → Value) w', i ≠ s1 → i ≠ s2 → l.toArray[i]? = some o → (Region.waitsFor .any l.toArray s1 i = true → b = false) → (Region.waitsFor .any l.toArray s2 i = true → c = false) → (Region.waitsFor .any l.toArray i s1 = true → b = true) → C b c w' → (∀ v, ρ (.const v) = v) → (∀ f, ρ (.func f) = .func (.func f) #[] #[]) →
      (∀ t, freeB l.toArray l.toArray.size t = true → ρ (.tmp t) = slotOf a t) → (∀ j t, Region.waitsFor .any l.toArray i j = true → (l.toArray[j]?).bind (·.dst) = some t → S b c j w' (ρ (.tmp t))) → stepUpon P w' (S b c i) ((execOp ρ o).run P w'))
    (hstore1 : ∀ o (ρ : Operand → Value) w', l.toArray[s1]? = some o → C false false w' → (∀ j t, Region.waitsFor .any l.toArray s1 j = true → (l.toArray[j]?).bind (·.dst) = some t → S false false j w' (ρ (.tmp t))) →
      ∃ w'', (execOp ρ o).run P w' = .ok .skip w'' ∧ C true false w'' ∧ ∀ j v, S false false j w' v → S true false j w'' v)
    (hstore2 : ∀ o (ρ : Operand → Value) w', l.toArray[s2]? = some o → C true false w' → (∀ j t, Region.waitsFor .any l.toArray s2 j = true → (l.toArray[j]?).bind (·.dst) = some t → S true false j w' (ρ (.tmp t))) →
      ∃ w'', (execOp ρ o).run P w' = .ok .skip w'' ∧ C true true w'' ∧ ∀ j v, S true false j w' v → S true true j w'' v)
    (hend : ∀ (V : Nat → Value) w', C true true w' → (∀ i, i < l.length → i ≠ s1 → i ≠ s2 → S true true i w' (V i)) → Q .normal (puts V l 0 a) w') : (Code.region id l.toArray true).wp P Q a w := by
  have hwant : ∀ (i : Nat) (o : Oper) (a' : Act), l.toArray[i]? = some o → Region.wanted o (yielded l.toArray a'.tmps) = true := fun i o a' ho => by
    have h1 := List.all_eq_true.1 hplain i (List.mem_range.2 (in_ops ho))
    simp only [ho] at h1
    have h2 : o.guard = none := Option.isNone_iff_eq_none.1 h1
    simp [Region.wanted, h2]
  have hdeps : ∀ (i : Nat) (o : Oper) (b c : Bool) (a' : Act) (w' : World), l.toArray[i]? = some o →
      (∀ e ∈ o.after, Region.binds .any e = true → ∀ oj t, l.toArray[e.on]? = some oj → oj.dst = some t → S b c e.on w' (slotOf a' t)) →
      ∀ j t, Region.waitsFor .any l.toArray i j = true → (l.toArray[j]?).bind (·.dst) = some t → S b c j w' (a'.eval (.tmp t)) := fun i o b c a' w' ho hdep j t hw hj => by
    obtain ⟨oi, hoi, e, he, hbd, hon⟩ := Region.waitsFor_spec hw
    have eo : oi = o := Option.some.inj (hoi.symm.trans ho)
    subst eo
    subst hon
    cases hoj : l.toArray[e.on]? with
    | none => rw [hoj] at hj; simp at hj
    | some oj =>
      rw [hoj] at hj
      exact hdep e he hbd oj t hoj (by simpa using hj)
  refine wp_region_any hm ?_
  have hdrew : C false false { w with drawn := w.drawn + 1 } := monoC _ _ _ _ hC (Below.refl _ _).drew
  have z1 : (Array.replicate l.toArray.size false).getD s1 false = false := getD_replicate_false _ _
  have z2 : (Array.replicate l.toArray.size false).getD s2 false = false := getD_replicate_false _ _
  refine GoingT.any (a0 := a) (S := S) (C := C) (s1 := s1) (s2 := s2) hslots hB hs12 hw12 mono monoC ?_ ?_ ?_ ?_ l.toArray.size _ a _ ⟨by simp, ?_, by rw [z1, z2]; exact hdrew, rfl, rfl, fun _ _ => rfl, ?_⟩ (by simp)
  · intro b c i o a' w' hi1 hi2 ho hf1 hf2 hg hb hfr hdep
    refine ⟨hwant i o a' ho, hstep b c i o a'.eval w' hi1 hi2 ho hf1 hf2 hg hb (fun _ => rfl) (fun _ => rfl) (fun t ht => ?_) (hdeps i o b c a' w' ho hdep)⟩
    refine hfr t fun k ok hok hdk => ?_
    have h1 := List.all_eq_true.1 ht k (List.mem_range.2 (in_ops hok))
    simp only [hok, Option.bind_some, decide_eq_true_eq] at h1
    exact h1 hdk
  · intro o a' w' ho hb hdep
    obtain ⟨w'', h1, h2, h3⟩ := hstore1 o a'.eval w' ho hb (hdeps s1 o false false a' w' ho hdep)
    exact ⟨hwant s1 o a' ho, w'', h1, h2, fun i oi t hoi hdi hs => h3 i _ hs⟩
  · intro o a' w' ho hb hdep
    obtain ⟨w'', h1, h2, h3⟩ := hstore2 o a'.eval w' ho hb (hdeps s2 o true false a' w' ho hdep)
    exact ⟨hwant s2 o a' ho, w'', h1, h2, fun i oi t hoi hdi hs => h3 i _ hs⟩
  · intro listed a' w' g hall
    have hst1 : listed.getD s1 false = true := hall s1 (by simpa using hlt1)
    have hst2 : listed.getD s2 false = true := hall s2 (by simpa using hlt2)
    have key : a' = puts (fun i => match (l.toArray[i]?).bind (·.dst) with | some t => slotOf a' t | none => undef) l 0 a := by
      obtain ⟨h1, h2, h3, h4⟩ := puts_factsT (fun i => match (l.toArray[i]?).bind (·.dst) with | some t => slotOf a' t | none => undef) hslots l.length (Nat.le_refl _)
      rw [List.take_length] at h1 h2 h3 h4
      refine act_eq (g.size.trans h1.symm) (g.defers.trans h2.symm) fun t _ => ?_
      by_cases hx : ∃ (i : Nat) (o : Oper), l.toArray[i]? = some o ∧ o.dst = some t
      · obtain ⟨i, o, ho, hd⟩ := hx
        rw [h3 i o t (by simpa using in_ops ho) ho hd]
        simp only [ho, Option.bind_some, hd]
      · have hx' : ∀ (i : Nat) (o : Oper), l.toArray[i]? = some o → o.dst ≠ some t := fun i o ho hd => hx ⟨i, o, ho, hd⟩
        rw [h4 t (fun i o _ ho => hx' i o ho), g.frame t hx']
    rw [key]
    have hbel := g.bel
    rw [hst1, hst2] at hbel
    refine hend _ w' hbel fun i hi hne1 hne2 => ?_
    have hio : l.toArray[i]? = some l[i] := by simp [hi]
    rcases slotsT_spec hslots hio with ⟨h0, -⟩ | ⟨-, -, t, hd, -, -⟩
    · rcases h0 with h0 | h0
      · exact absurd h0 hne1
      · exact absurd h0 hne2
    simp only [hio, Option.bind_some, hd]
    have := g.vals i l[i] t hio hd (hall i (by simpa using hi))
    rw [hst1, hst2] at this
    exact this
  · intro i o ho hl
    rw [getD_replicate_false] at hl
    cases hl
  · intro i o t ho hd hl
    rw [getD_replicate_false] at hl
    cases hl
end
end Go.Proofs.Ytgjeihdibcjjcaa

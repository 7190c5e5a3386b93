/- A region that draws its order, in general, with a ghost: what the sentences speak of may be named at the marks (blocks that are made there). Whatever the program. -/
import Derived.Test.YtancphohpedigaaRegGen
namespace Go.Proofs.Ytancphohpedigaa
open Go Go.ChangeShapes Go.WideShapes Go.ChangeAt Go.RowKit

section
variable {P : Program} {γ : Type} {ops : Array Oper} {S : γ → (Nat → Bool) → Nat → World → Value → Prop} {C : γ → (Nat → Bool) → World → Prop} {a0 : Act} {ms : List Nat}

/-- What holds at every moment of the region. -/
structure GoingH (ops : Array Oper) (ms : List Nat) (S : γ → (Nat → Bool) → Nat → World → Value → Prop) (C : γ → (Nat → Bool) → World → Prop) (a0 : Act) (h : γ) (listed : Array Bool) (a : Act) (w : World) : Prop where
  lsize : listed.size = ops.size
  closed : ∀ i o, ops[i]? = some o → listed.getD i false = true → ∀ e ∈ o.after, Region.binds .any e = true → listed.getD e.on false = true
  bel : C h (doneOf ms listed) w
  defers : a.defers = a0.defers
  size : a.tmps.size = a0.tmps.size
  frame : ∀ t, (∀ (i : Nat) (o : Oper), ops[i]? = some o → o.dst = some t → listed.getD i false = false) → slotOf a t = slotOf a0 t
  vals : ∀ i o t, ops[i]? = some o → o.dst = some t → listed.getD i false = true → S h (doneOf ms listed) i w (slotOf a t)

/-- One operation more: its value in its slot, if it has one; what the sentences have become. -/
theorem GoingH.next {h h' : γ} {listed : Array Bool} {a : Act} {w w' : World} {i : Nat} {o : Oper} {v : Value} (g : GoingH ops ms S C a0 h listed a w) (hslots : slotsG ops ms a0.tmps.size = true)
    (hall : ∀ e ∈ o.after, Region.binds .any e = true → listed.getD e.on false = true) (ho : ops[i]? = some o)
    (hC : C h' (doneOf ms (listed.setIfInBounds i true)) w') (hv : o.dst ≠ none → S h' (doneOf ms (listed.setIfInBounds i true)) i w' v)
    (turn : ∀ j oj t, ops[j]? = some oj → oj.dst = some t → S h (doneOf ms listed) j w (slotOf a t) → S h' (doneOf ms (listed.setIfInBounds i true)) j w' (slotOf a t)) :
    GoingH ops ms S C a0 h' (listed.setIfInBounds i true) (a.put o.dst v) w' := by
  have hin : i < listed.size := by rw [g.lsize]; exact in_ops ho
  have hset : (listed.setIfInBounds i true).getD i false = true := by simp [hin]
  rcases slotsG_spec hslots ho with ⟨-, hd⟩ | ⟨t, hd, hlt, huniq⟩
  · rw [hd]
    refine ⟨by simpa using g.lsize, closed_next ho g.closed hall, hC, g.defers, g.size, fun t ht => ?_, fun j oj u hoj hdj hl => ?_⟩
    · refine g.frame t fun j oj hoj hdj => ?_
      have h1 := ht j oj hoj hdj
      by_cases hji : i = j
      · subst hji; rw [hset] at h1; cases h1
      · rw [getD_set_ne false hji] at h1; exact h1
    · by_cases hji : i = j
      · subst hji
        have e : oj = o := Option.some.inj (hoj.symm.trans ho)
        subst e
        rw [hd] at hdj; cases hdj
      · rw [getD_set_ne false hji] at hl
        exact turn j oj u hoj hdj (g.vals j oj u hoj hdj hl)
  · rw [hd]
    refine ⟨by simpa using g.lsize, closed_next ho g.closed hall, hC, g.defers, by simpa [Act.put] using g.size, fun u hu => ?_, fun j oj u hoj hdj hl => ?_⟩
    · have hne : t ≠ u := fun e => by
        subst e
        have h1 := hu i o ho hd
        rw [hset] at h1; cases h1
      rw [slot_put_other v hne]
      refine g.frame u fun j oj hoj hdj => ?_
      have h1 := hu j oj hoj hdj
      by_cases hji : i = j
      · subst hji; rw [hset] at h1; cases h1
      · rw [getD_set_ne false hji] at h1; exact h1
    · by_cases hji : i = j
      · subst hji
        have e : oj = o := Option.some.inj (hoj.symm.trans ho)
        subst e
        have eu : u = t := Option.some.inj (hdj.symm.trans hd)
        subst eu
        rw [slot_put_same v (by rw [g.size]; exact hlt)]
        exact hv (by rw [hd]; exact fun h => by cases h)
      · rw [getD_set_ne false hji] at hl
        have hne' : t ≠ u := fun e => hji (huniq j oj hoj (by rw [e]; exact hdj))
        rw [slot_put_other v hne']
        exact turn j oj u hoj hdj (g.vals j oj u hoj hdj hl)

theorem GoingH.any {Q' : Exit → Act → World → Prop} (hslots : slotsG ops ms a0.tmps.size = true) (hdeps : depsB .any ops ops.size = true)
    (mono : ∀ h d i w v w', S h d i w v → Below w.heap.size w w' → S h d i w' v) (monoC : ∀ h d w w', C h d w → Below w.heap.size w w' → C h d w')
    (hstep : ∀ h d i o a w, ms.contains i = false → ops[i]? = some o → (∀ s, ms.contains s = true → Region.waitsFor .any ops s i = true → d s = false) → (∀ s, ms.contains s = true → Region.waitsFor .any ops i s = true → d s = true) → C h d w →
      (∀ t, (∀ (k : Nat) (ok : Oper), ops[k]? = some ok → ok.dst = some t → (k = i ∨ Region.waitsFor .any ops k i = true)) → slotOf a t = slotOf a0 t) →
      (∀ e ∈ o.after, Region.binds .any e = true → ∀ oj t, ops[e.on]? = some oj → oj.dst = some t → S h d e.on w (slotOf a t)) →
      (Region.wanted o (yielded ops a.tmps) = true → stepUpon P w (S h d i) ((execOp a.eval o).run P w)) ∧ (Region.wanted o (yielded ops a.tmps) = false → S h d i w undef))
    (hmark : ∀ h d i o a w, ms.contains i = true → ops[i]? = some o → d i = false → (∀ s, ms.contains s = true → Region.waitsFor .any ops s i = true → d s = false) → (∀ s, ms.contains s = true → Region.waitsFor .any ops i s = true → d s = true) → C h d w →
      (∀ t, (∀ (k : Nat) (ok : Oper), ops[k]? = some ok → ok.dst = some t → (k = i ∨ Region.waitsFor .any ops k i = true)) → slotOf a t = slotOf a0 t) →
      (∀ e ∈ o.after, Region.binds .any e = true → ∀ oj t, ops[e.on]? = some oj → oj.dst = some t → S h d e.on w (slotOf a t)) →
      Region.wanted o (yielded ops a.tmps) = true ∧ markUpon P w (fun w' v => ∃ h', C h' (doneAt d i) w' ∧ (o.dst ≠ none → S h' (doneAt d i) i w' v) ∧ ∀ j oj t, ops[j]? = some oj → oj.dst = some t → S h d j w (slotOf a t) → S h' (doneAt d i) j w' (slotOf a t)) ((execOp a.eval o).run P w))
    (hend : ∀ h (listed : Array Bool) a w, GoingH ops ms S C a0 h listed a w → (∀ i, i < ops.size → listed.getD i false = true) → Q' .normal a w) :
    ∀ (f : Nat) (h : γ) (listed : Array Bool) (a : Act) (w : World), GoingH ops ms S C a0 h listed a w → listed.toList.count false = f → wpAny P .any ops Q' f listed a w := by
  intro f
  induction f with
  | zero =>
    intro h listed a w g hc
    have hall := all_of_count hc
    refine ⟨List.eq_nil_iff_forall_not_mem.2 fun j hj => ?_, hend h listed a w g (fun i hi => hall i (by rw [g.lsize]; exact hi))⟩
    obtain ⟨h1, oj, hoj, -⟩ := mem_ready.1 hj
    have hin : j < listed.size := by rw [g.lsize]; exact in_ops hoj
    have h2 := hall j hin
    simp [hin] at h1 h2
    rw [h1] at h2; cases h2
  | succ f ih =>
    intro h listed a w g hc
    refine ⟨fun hnil => ?_, fun j hj => ?_⟩
    · exfalso
      have hmem : false ∈ listed.toList := List.count_pos_iff.1 (by omega)
      obtain ⟨k, hk, hk2⟩ := List.mem_iff_getElem.1 hmem
      have hks : k < listed.size := by simpa using hk
      obtain ⟨i0, hi0, hu0, hmin⟩ := least_of (p := fun i => listed.getD i true = false) listed.size ⟨k, hks, by simp [hks]; simpa using hk2⟩
      have hi0' : i0 < ops.size := by rw [← g.lsize]; exact hi0
      obtain ⟨o0, ho0⟩ : ∃ o, ops[i0]? = some o := ⟨ops[i0], Array.getElem?_eq_getElem hi0'⟩
      have hr0 : i0 ∈ Region.ready .any ops listed := by
        refine mem_ready.2 ⟨hu0, o0, ho0, fun e he hb => ?_⟩
        have hlt := deps_spec hdeps hi0' ho0 e he hb
        have hl : listed.getD e.on true = true := by
          cases hx : listed.getD e.on true with
          | true => rfl
          | false => exact absurd hx (hmin _ hlt)
        have hin : e.on < listed.size := by omega
        simpa [hin] using hl
      rw [hnil] at hr0; cases hr0
    · obtain ⟨hjun, oj, hoj, hall'⟩ := mem_ready.1 hj
      have hjin : j < listed.size := by rw [g.lsize]; exact in_ops hoj
      have hj0 : listed.getD j false = false := by simp [hjin] at hjun ⊢; exact hjun
      have hdep : ∀ e ∈ oj.after, Region.binds .any e = true → ∀ ok u, ops[e.on]? = some ok → ok.dst = some u → S h (doneOf ms listed) e.on w (slotOf a u) :=
        fun e he hb ok u hok hdk => g.vals e.on ok u hok hdk (hall' e he hb)
      have hwaits : ∀ s, Region.waitsFor .any ops s j = true → listed.getD s false = false := fun s hwt => by
        obtain ⟨os, hos, e, he, hbd, hon⟩ := Region.waitsFor_spec hwt
        cases hx : listed.getD s false with
        | false => rfl
        | true =>
          have h1 := g.closed s os hos hx e he hbd
          rw [hon] at h1
          rw [hj0] at h1; cases h1
      have hgot : ∀ s, Region.waitsFor .any ops j s = true → listed.getD s false = true := fun s hwt => by
        obtain ⟨os, hos, e, he, hbd, hon⟩ := Region.waitsFor_spec hwt
        have eo : os = oj := Option.some.inj (hos.symm.trans hoj)
        subst eo
        have := hall' e he hbd
        rw [hon] at this; exact this
      have hw1 : ∀ s, ms.contains s = true → Region.waitsFor .any ops s j = true → doneOf ms listed s = false := fun s hs hwt => by
        unfold doneOf; rw [hwaits s hwt, Bool.and_false]
      have hw2 : ∀ s, ms.contains s = true → Region.waitsFor .any ops j s = true → doneOf ms listed s = true := fun s hs hwt => by
        unfold doneOf; rw [hgot s hwt, hs]; rfl
      have hfr : ∀ t, (∀ (k : Nat) (ok : Oper), ops[k]? = some ok → ok.dst = some t → (k = j ∨ Region.waitsFor .any ops k j = true)) → slotOf a t = slotOf a0 t := fun t ht =>
        g.frame t fun k ok hok hdk => by
          rcases ht k ok hok hdk with e | e
          · subst e; exact hj0
          · exact hwaits k e
      by_cases hjm : ms.contains j = true
      · obtain ⟨hw, hm⟩ := hmark h (doneOf ms listed) j oj a w hjm hoj (by unfold doneOf; rw [hj0, Bool.and_false]) hw1 hw2 g.bel hfr hdep
        unfold wpOp
        simp only [hoj, hw, if_true]
        refine .inl ?_
        unfold Oper.wp
        have em := done_mark (ms := ms) hjm hjin
        generalize (execOp a.eval oj).run P w = r at *
        cases r with
        | ok nx w' =>
          cases nx <;> simp only [markUpon] at hm
          case value v =>
            obtain ⟨h', h1, h2, h3⟩ := hm
            rw [← em] at h1 h2 h3
            exact ih _ _ _ _ (g.next hslots hall' hoj h1 h2 h3) (count_set hjun hc)
          case skip =>
            obtain ⟨h', h1, h2, h3⟩ := hm
            rw [← em] at h1 h2 h3
            have hnx := g.next hslots hall' hoj h1 h2 h3
            exact ih _ _ _ _ hnx (count_set hjun hc)
          case enter fn args =>
            obtain ⟨rfl, hcall⟩ := hm
            exact hcall.mono fun e w'' ⟨v, he, h', h1, h2, h3⟩ => by
              subst he
              rw [← em] at h1 h2 h3
              exact ih _ _ _ _ (g.next hslots hall' hoj h1 h2 h3) (count_set hjun hc)
        | halt x w' => simp only [markUpon] at hm
      · have hjm' : ms.contains j = false := by simpa using hjm
        obtain ⟨hs1, hs0⟩ := hstep h (doneOf ms listed) j oj a w hjm' hoj hw1 hw2 g.bel hfr hdep
        have eo := done_other (ms := ms) (listed := listed) hjm'
        unfold wpOp
        cases hw : Region.wanted oj (yielded ops a.tmps) with
        | true =>
          have hs := hs1 hw
          simp only [hoj, hw, if_true]
          refine .inl ?_
          unfold Oper.wp
          generalize (execOp a.eval oj).run P w = r at *
          cases r with
          | ok nx w' =>
            cases nx <;> simp only [stepUpon] at hs
            case value v => exact ih _ _ _ _ (g.next (h' := h) hslots hall' hoj (by rw [eo]; exact monoC _ _ _ _ g.bel hs.1) (fun _ => by rw [eo]; exact hs.2) (fun k _ _ _ _ hk => by rw [eo]; exact mono _ _ _ _ _ _ hk hs.1)) (count_set hjun hc)
            case enter fn args =>
              obtain ⟨rfl, hcall⟩ := hs
              exact hcall.mono fun e w'' ⟨v, he, hb, hv⟩ => by
                subst he
                exact ih _ _ _ _ (g.next (h' := h) hslots hall' hoj (by rw [eo]; exact monoC _ _ _ _ g.bel hb) (fun _ => by rw [eo]; exact hv) (fun k _ _ _ _ hk => by rw [eo]; exact mono _ _ _ _ _ _ hk hb)) (count_set hjun hc)
          | halt x w' => simp only [stepUpon] at hs
        | false =>
          have hs := hs0 hw
          simp only [hoj, hw, Bool.false_eq_true, if_false]
          exact ih _ _ _ _ (g.next (h' := h) hslots hall' hoj (by rw [eo]; exact g.bel) (fun _ => by rw [eo]; exact hs) (fun k _ _ _ _ hk => by rw [eo]; exact hk)) (count_set hjun hc)

/-- THE LAW, in the form in which it is used. -/
theorem wp_region_gho {id : Nat} {Q : Exit → Act → World → Prop} {a : Act} {w : World} {l : List Oper} (ms : List Nat) (S : γ → (Nat → Bool) → Nat → World → Value → Prop) (C : γ → (Nat → Bool) → World → Prop) (h0 : γ) (hm : P.follows .mixedOrders = true)
    (hB : depsB .any l.toArray l.toArray.size = true) (hslots : slotsG l.toArray ms a.tmps.size = true)
    (mono : ∀ h d i w v w', S h d i w v → Below w.heap.size w w' → S h d i w' v) (monoC : ∀ h d w w', C h d w → Below w.heap.size w w' → C h d w') (hC : C h0 (fun _ => false) w)
    (hstep : ∀ h d i o (ρ : Operand → Value) w', ms.contains i = false → l.toArray[i]? = some o → (∀ s, ms.contains s = true → Region.waitsFor .any l.toArray s i = true → d s = false) → (∀ s, ms.contains s = true → Region.waitsFor .any l.toArray i s = true → d s = true) → C h d w' → (∀ v, ρ (.const v) = v) → (∀ f, ρ (.func f) = .func (.func f) #[] #[]) →
      (∀ t, freeAt l.toArray i t = true → ρ (.tmp t) = slotOf a t) → (∀ j t, Region.waitsFor .any l.toArray i j = true → (l.toArray[j]?).bind (·.dst) = some t → S h d j w' (ρ (.tmp t))) →
      (wantsB l.toArray ρ o = true → stepUpon P w' (S h d i) ((execOp ρ o).run P w')) ∧ (wantsB l.toArray ρ o = false → S h d i w' undef))
    (hmark : ∀ h d i o (ρ : Operand → Value) w', ms.contains i = true → l.toArray[i]? = some o → d i = false → (∀ s, ms.contains s = true → Region.waitsFor .any l.toArray s i = true → d s = false) → (∀ s, ms.contains s = true → Region.waitsFor .any l.toArray i s = true → d s = true) → C h d w' → (∀ v, ρ (.const v) = v) → (∀ f, ρ (.func f) = .func (.func f) #[] #[]) →
      (∀ t, freeAt l.toArray i t = true → ρ (.tmp t) = slotOf a t) → (∀ j t, Region.waitsFor .any l.toArray i j = true → (l.toArray[j]?).bind (·.dst) = some t → S h d j w' (ρ (.tmp t))) →
      wantsB l.toArray ρ o = true ∧ markUpon P w' (fun w'' v => ∃ h', C h' (doneAt d i) w'' ∧ (o.dst ≠ none → S h' (doneAt d i) i w'' v) ∧ ∀ j t, (l.toArray[j]?).bind (·.dst) = some t → S h d j w' (ρ (.tmp t)) → S h' (doneAt d i) j w'' (ρ (.tmp t))) ((execOp ρ o).run P w'))
    (hend : ∀ h (V : Nat → Value) w', C h (allOf ms) w' → (∀ i, i < l.length → (l.toArray[i]?).bind (·.dst) ≠ none → S h (allOf ms) i w' (V i)) → Q .normal (puts V l 0 a) w') (hmsz : ms.all (· < l.length) = true) : (Code.region id l.toArray true).wp P Q a w := by
  have hdeps : ∀ (h : γ) (i : Nat) (o : Oper) (d : Nat → Bool) (a' : Act) (w' : World), l.toArray[i]? = some o →
      (∀ e ∈ o.after, Region.binds .any e = true → ∀ oj t, l.toArray[e.on]? = some oj → oj.dst = some t → S h d e.on w' (slotOf a' t)) →
      ∀ j t, Region.waitsFor .any l.toArray i j = true → (l.toArray[j]?).bind (·.dst) = some t → S h d j w' (a'.eval (.tmp t)) := fun h i o d a' w' ho hdep j t hw hj => by
    obtain ⟨oi, hoi, e, he, hbd, hon⟩ := Region.waitsFor_spec hw
    have eo : oi = o := Option.some.inj (hoi.symm.trans ho)
    subst eo
    subst hon
    cases hoj : l.toArray[e.on]? with
    | none => rw [hoj] at hj; simp at hj
    | some oj =>
      rw [hoj] at hj
      exact hdep e he hbd oj t hoj (by simpa using hj)
  have hfree : ∀ (i : Nat) (a' : Act), (∀ t, (∀ (k : Nat) (ok : Oper), l.toArray[k]? = some ok → ok.dst = some t → (k = i ∨ Region.waitsFor .any l.toArray k i = true)) → slotOf a' t = slotOf a t) → ∀ t, freeAt l.toArray i t = true → a'.eval (.tmp t) = slotOf a t := fun i a' hfr t ht =>
    hfr t fun k ok hok hdk => by
      have h1 := List.all_eq_true.1 ht k (List.mem_range.2 (in_ops hok))
      simp only [hok, Option.bind_some, hdk, ne_eq, not_true_eq_false, decide_false, Bool.false_or, Bool.or_eq_true, decide_eq_true_eq] at h1
      exact h1
  refine wp_region_any hm ?_
  have z0 : doneOf ms (Array.replicate l.toArray.size false) = fun _ => false := by
    funext s; unfold doneOf; rw [getD_replicate_false, Bool.and_false]
  have hdrew : C h0 (fun _ => false) { w with drawn := w.drawn + 1 } := monoC _ _ _ _ hC (Below.refl _ _).drew
  refine GoingH.any (a0 := a) (S := S) (C := C) (ms := ms) hslots hB mono monoC ?_ ?_ ?_ l.toArray.size h0 _ a _ ⟨by simp, ?_, by rw [z0]; exact hdrew, rfl, rfl, fun _ _ => rfl, ?_⟩ (by simp)
  · intro h d i o a' w' hi ho h1 h2 hb hfr hdep
    rw [wants_eq]
    exact hstep h d i o a'.eval w' hi ho h1 h2 hb (fun _ => rfl) (fun _ => rfl) (hfree i a' hfr) (hdeps h i o d a' w' ho hdep)
  · intro h d i o a' w' hi ho h0 h1 h2 hb hfr hdep
    rw [wants_eq]
    obtain ⟨k1, k2⟩ := hmark h d i o a'.eval w' hi ho h0 h1 h2 hb (fun _ => rfl) (fun _ => rfl) (hfree i a' hfr) (hdeps h i o d a' w' ho hdep)
    refine ⟨k1, markUpon_mono k2 fun u v ⟨h', m1, m2, m3⟩ => ⟨h', m1, m2, fun j oj t hoj hdj hs => m3 j t (by rw [hoj]; exact hdj) hs⟩⟩
  · intro h listed a' w' g hall
    have ed : doneOf ms listed = allOf ms := by
      funext s
      unfold doneOf allOf
      by_cases hs : ms.contains s = true
      · rw [hs, hall s (by simpa using List.all_eq_true.1 hmsz s (by simpa using hs))]; rfl
      · have : ms.contains s = false := by simpa using hs
        rw [this]; rfl
    have key : a' = puts (fun i => match (l.toArray[i]?).bind (·.dst) with | some t => slotOf a' t | none => undef) l 0 a := by
      obtain ⟨h1, h2, h3, h4⟩ := puts_factsG (fun i => match (l.toArray[i]?).bind (·.dst) with | some t => slotOf a' t | none => undef) hslots l.length (Nat.le_refl _)
      rw [List.take_length] at h1 h2 h3 h4
      refine act_eq (g.size.trans h1.symm) (g.defers.trans h2.symm) fun t _ => ?_
      by_cases hx : ∃ (i : Nat) (o : Oper), l.toArray[i]? = some o ∧ o.dst = some t
      · obtain ⟨i, o, ho, hd⟩ := hx
        rw [h3 i o t (by simpa using in_ops ho) ho hd]
        simp only [ho, Option.bind_some, hd]
      · have hx' : ∀ (i : Nat) (o : Oper), l.toArray[i]? = some o → o.dst ≠ some t := fun i o ho hd => hx ⟨i, o, ho, hd⟩
        rw [h4 t (fun i o _ ho => hx' i o ho), g.frame t (fun i o ho hd => absurd hd (hx' i o ho))]
    rw [key]
    have hbel := g.bel
    rw [ed] at hbel
    refine hend h _ w' hbel fun i hi hne => ?_
    have hio : l.toArray[i]? = some l[i] := by simp [hi]
    rcases slotsG_spec hslots hio with ⟨-, hd⟩ | ⟨t, hd, -, -⟩
    · rw [hio] at hne
      simp [hd] at hne
    simp only [hio, Option.bind_some, hd]
    have := g.vals i l[i] t hio hd (hall i (by simpa using hi))
    rw [ed] at this
    exact this
  · intro i o ho hl
    rw [getD_replicate_false] at hl
    cases hl
  · intro i o t ho hd hl
    rw [getD_replicate_false] at hl
    cases hl
end
end Go.Proofs.Ytancphohpedigaa

/- Texts of one chain, laid one behind the other. -/
import Derived.Test.YtimioiaoefhabaaGreatPartPackPlaces3
import Derived.Sort.Grow
import Derived.StillTail
namespace Go.Proofs.YtimioiaoefhabaaGreat
open Go Go.ChangeShapes Go.WideShapes Go.ChangeAt Go.RowKit
/-- All below B stays, and as much has been drawn at least. -/
structure BelD (B : Nat) (w w' : World) : Prop where
  bel : Below B w w'
  drawn : w.drawn ≤ w'.drawn
theorem BelD.refl (B : Nat) (w : World) : BelD B w w := ⟨Below.refl _ _, Nat.le_refl _⟩
theorem BelD.trans {B : Nat} {a b c : World} (h : BelD B a b) (k : BelD B b c) : BelD B a c := ⟨h.bel.trans k.bel, Nat.le_trans h.drawn k.drawn⟩
theorem BelD.mono {B B' : Nat} {w w' : World} (h : BelD B w w') (hB : B' ≤ B) : BelD B' w w' := ⟨h.bel.mono hB, h.drawn⟩
theorem BelD.drew {B : Nat} {a w : World} (h : BelD B a w) : BelD B a w.drew := ⟨h.bel.drew, Nat.le_succ_of_le h.drawn⟩
theorem BelD.alloc {B : Nat} {a w : World} (h : BelD B a w) (hB : B ≤ w.heap.size) (o : Obj) : BelD B a (w.alloc o) := ⟨h.bel.alloc hB o, h.drawn⟩
/-- Just so much has been drawn, and these blocks lie behind. -/
theorem BelD.grown {w w' : World} (h : BelD w.heap.size w w') : ∃ q os, w' = Go.Sort.grow (w.drewN q) os := by
  obtain ⟨⟨h1, h2, h3, h4, h5⟩, h6⟩ := h
  refine ⟨w'.drawn - w.drawn, w'.heap.extract w.heap.size w'.heap.size, ?_⟩
  have e1 : w'.heap = w.heap ++ w'.heap.extract w.heap.size w'.heap.size := by
    refine Array.ext_getElem? fun k => ?_
    by_cases hk : k < w.heap.size
    · rw [Array.getElem?_append_left hk, h5 k hk]
    · rw [Array.getElem?_append_right (by omega), Array.getElem?_extract]
      by_cases hk2 : k < w'.heap.size
      · rw [if_pos (by omega)]; congr 1; omega
      · rw [if_neg (by omega), Array.getElem?_eq_none (by omega)]
  have e2 : w.drawn + (w'.drawn - w.drawn) = w'.drawn := by omega
  cases w' with
  | mk =>
    simp only at h1 h2 h3 e1 e2
    subst h1 h2 h3
    unfold Go.Sort.grow World.drewN
    simp only
    rw [e2, ← e1]
/-- What is asked of one operation in a world: a value of which S holds, and nothing old turned. -/
def stepUponD (P : Program) (w : World) (S : World → Value → Prop) : Result Next → Prop
  | .ok (.value v) w' => BelD w.heap.size w w' ∧ S w' v
  | .ok (.enter f args) w' => w' = w ∧ Calls P f args w (fun e w'' => ∃ v, e = .returned v ∧ BelD w.heap.size w w'' ∧ S w'' v)
  | _ => False
section
variable {P : Program} {ops : Array Oper} {md : Region.Mode} {S : Nat → World → Value → Prop} {W : World} {a0 : Act} {n : Nat}
/-- What holds at every moment of the region. -/
structure GoingD (md : Region.Mode) (ops : Array Oper) (n : Nat) (S : Nat → World → Value → Prop) (W : World) (a0 : Act) (listed : Array Bool) (a : Act) (w : World) : Prop where
  head : HeadInv md ops n listed
  bel : BelD W.heap.size W w
  defers : a.defers = a0.defers
  size : a.tmps.size = a0.tmps.size
  frame : ∀ t, (∀ i o, i < n → ops[i]? = some o → o.dst ≠ some t) → slotOf a t = slotOf a0 t
  vals : ∀ i o t, i < n → ops[i]? = some o → o.dst = some t → listed.getD i false = true → S i w (slotOf a t)
theorem GoingD.next {listed : Array Bool} {a : Act} {w w' : World} {i t : Nat} {o : Oper} {v : Value} (g : GoingD md ops n S W a0 listed a w) (hslots : slotsB ops n a0.tmps.size = true)
    (mono : ∀ i w v w', S i w v → BelD w.heap.size w w' → S i w' v) (hr : i ∈ Region.ready md ops listed) (hi : i < n) (ho : ops[i]? = some o) (hd : o.dst = some t) (hb : BelD w.heap.size w w') (hv : S i w' v) :
    GoingD md ops n S W a0 (listed.setIfInBounds i true) (a.put o.dst v) w' := by
  obtain ⟨t', hd', hlt, huniq⟩ := slots_spec hslots hi ho
  have ht : t' = t := Option.some.inj (hd'.symm.trans hd)
  subst ht
  rw [hd]
  refine ⟨g.head.set hr hi, g.bel.trans (hb.mono g.bel.bel.size), g.defers, by simpa [Act.put] using g.size, fun u hu => ?_, fun j oj u hj hoj hdj hl => ?_⟩
  · rw [slot_put_other v (fun e => hu i o hi ho (by rw [hd, e]))]
    exact g.frame u hu
  · by_cases hji : i = j
    · subst hji
      have e : oj = o := Option.some.inj (hoj.symm.trans ho)
      subst e
      have eu : u = t' := Option.some.inj (hdj.symm.trans hd)
      subst eu
      rw [slot_put_same v (by rw [g.size]; exact hlt)]
      exact hv
    · rw [getD_set_ne false hji] at hl
      have hne : t' ≠ u := fun e => hji (huniq j oj hj hoj (by rw [e]; exact hdj))
      rw [slot_put_other v hne]
      exact mono _ _ _ _ (g.vals j oj u hj hoj hdj hl) hb
theorem GoingD.any {Q' : Exit → Act → World → Prop} (hslots : slotsB ops n a0.tmps.size = true) (hdeps : depsB md ops n = true) (hsink : Region.sinkB md ops n = true) (hchain : Region.chainB md ops n = true) (hn : n < ops.size)
    (mono : ∀ i w v w', S i w v → BelD w.heap.size w w' → S i w' v)
    (hstep : ∀ i o a w, i < n → ops[i]? = some o → BelD W.heap.size W w → (∀ t, (∀ i o, i < n → ops[i]? = some o → o.dst ≠ some t) → slotOf a t = slotOf a0 t) →
      (∀ e ∈ o.after, Region.binds md e = true → ∀ oj t, ops[e.on]? = some oj → oj.dst = some t → S e.on w (slotOf a t)) → Region.wanted o (yielded ops a.tmps) = true ∧ stepUponD P w (S i) ((execOp a.eval o).run P w))
    (hend : ∀ a w, GoingD md ops n S W a0 (fullHead n ops.size) a w → wpAny P md ops Q' (ops.size - n) (fullHead n ops.size) a w) :
    ∀ (f : Nat) (listed : Array Bool) (a : Act) (w : World), GoingD md ops n S W a0 listed a w → listed.toList.count false = f → wpAny P md ops Q' f listed a w := by
  intro f
  induction f with
  | zero =>
    intro listed a w g hc
    by_cases hall : ∀ i, i < n → listed.getD i true = true
    · have e := is_full g.head.size (by omega) hall g.head.tail
      subst e
      rw [count_full] at hc
      have := hend a w g
      rwa [hc] at this
    · exfalso
      have h0 := g.head.tail n (Nat.le_refl _) hn
      have hin : n < listed.size := by rw [g.head.size]; exact hn
      have hmem : false ∈ listed.toList := by
        have : listed[n] = false := by simpa [hin] using h0
        rw [← this]; simp
      have := List.count_pos_iff.2 hmem
      omega
  | succ f ih =>
    intro listed a w g hc
    by_cases hall : ∀ i, i < n → listed.getD i true = true
    · have e := is_full g.head.size (by omega) hall g.head.tail
      subst e
      have h := hend a w g
      rw [count_full] at hc
      rwa [hc] at h
    · obtain ⟨i0, hi0, hu0, hmin⟩ := least_of (p := fun i => listed.getD i true = false) n (by
        by_cases h : ∃ i, i < n ∧ listed.getD i true = false
        · exact h
        · exact absurd (fun i hi => by cases hx : listed.getD i true with | true => rfl | false => exact absurd ⟨i, hi, hx⟩ h) hall)
      obtain ⟨o0, ho0⟩ : ∃ o, ops[i0]? = some o := ⟨ops[i0]'(by omega), Array.getElem?_eq_getElem (by omega)⟩
      have hr0 : i0 ∈ Region.ready md ops listed := by
        refine mem_ready.2 ⟨hu0, o0, ho0, fun e he hb => ?_⟩
        have hlt := deps_spec hdeps hi0 ho0 e he hb
        have hl : listed.getD e.on true = true := by
          cases hx : listed.getD e.on true with
          | true => rfl
          | false => exact absurd hx (hmin _ hlt)
        have hin : e.on < listed.size := by rw [g.head.size]; omega
        simpa [hin] using hl
      refine ⟨fun h => (by rw [h] at hr0; cases hr0), fun j hj => ?_⟩
      have hjn : j < n := by
        rcases Nat.lt_or_ge j n with h | h
        · exact h
        · exact absurd hj (tail_waits hsink hchain hn g.head _ i0 rfl hi0 hu0 j h)
      obtain ⟨hjun, oj, hoj, hall'⟩ := mem_ready.1 hj
      obtain ⟨t, hd, -, -⟩ := slots_spec hslots hjn hoj
      have hdep : ∀ e ∈ oj.after, Region.binds md e = true → ∀ ok u, ops[e.on]? = some ok → ok.dst = some u → S e.on w (slotOf a u) := fun e he hb ok u hok hdk => by
        have hl := hall' e he hb
        exact g.vals e.on ok u (Nat.lt_trans (deps_spec hdeps hjn hoj e he hb) hjn) hok hdk hl
      obtain ⟨hw, hs⟩ := hstep j oj a w hjn hoj g.bel g.frame hdep
      unfold wpOp
      simp only [hoj, hw, if_true]
      refine .inl ?_
      unfold Oper.wp
      generalize (execOp a.eval oj).run P w = r at *
      cases r with
      | ok nx w' =>
        cases nx <;> simp only [stepUponD] at hs
        case value v => exact ih _ _ _ (g.next hslots mono hj hjn hoj hd hs.1 hs.2) (count_set hjun hc)
        case enter fn args =>
          obtain ⟨rfl, hcall⟩ := hs
          exact hcall.mono fun e w'' ⟨v, he, hb, hv⟩ => by
            subst he
            exact ih _ _ _ (g.next hslots mono hj hjn hoj hd hb hv) (count_set hjun hc)
      | halt x w' => simp only [stepUponD] at hs
/-- THE LAW: the first n operations by their sentences, in whatever order; then the others, one behind the other. -/
theorem wp_region_invD {id : Nat} {Q : Exit → Act → World → Prop} {a : Act} {w : World} {l : List Oper} (n : Nat) (S : Nat → World → Value → Prop) (hm : P.follows .mixedOrders = true)
    (hB : (depsB .any l.toArray n && Region.sinkB .any l.toArray n && Region.chainB .any l.toArray n && decide (n < l.toArray.size) && Region.seqB .any l.toArray (l.toArray.size - n) n (fullHead n l.toArray.size)) = true)
    (hslots : slotsB l.toArray n a.tmps.size = true)
    (mono : ∀ i w v w', S i w v → BelD w.heap.size w w' → S i w' v)
    (hstep : ∀ i o a' w', i < n → l.toArray[i]? = some o → BelD w.heap.size w w' → (∀ t, (∀ i o, i < n → l.toArray[i]? = some o → o.dst ≠ some t) → slotOf a' t = slotOf a t) →
      (∀ e ∈ o.after, Region.binds .any e = true → ∀ oj t, l.toArray[e.on]? = some oj → oj.dst = some t → S e.on w' (slotOf a' t)) → Region.wanted o (yielded l.toArray a'.tmps) = true ∧ stepUponD P w' (S i) ((execOp a'.eval o).run P w'))
    (hend : ∀ a' w', BelD w.heap.size w w' → a'.defers = a.defers → a'.tmps.size = a.tmps.size → (∀ t, (∀ i o, i < n → l.toArray[i]? = some o → o.dst ≠ some t) → slotOf a' t = slotOf a t) →
      (∀ i o t, i < n → l.toArray[i]? = some o → o.dst = some t → S i w' (slotOf a' t)) → wpList P l.toArray Q (l.drop n) a' w') : (Code.region id l.toArray true).wp P Q a w := by
  simp only [Bool.and_eq_true, decide_eq_true_eq] at hB
  obtain ⟨⟨⟨⟨hdeps, hsink⟩, hchain⟩, hn⟩, hseq⟩ := hB
  refine wp_region_any hm ?_
  have hdrew : BelD w.heap.size w { w with drawn := w.drawn + 1 } := (BelD.refl _ _).drew
  refine GoingD.any (W := w) (a0 := a) (S := S) hslots hdeps hsink hchain hn mono hstep ?_ l.toArray.size _ a _ ⟨?_, hdrew, rfl, rfl, fun _ _ => rfl, ?_⟩ ?_
  · intro a' w' g
    have hw := hend a' w' g.bel g.defers g.size g.frame (fun i o t hi ho hd => g.vals i o t hi ho hd (by
      have hin : i < (fullHead n l.toArray.size).size := by rw [g.head.size]; omega
      simp [fullHead, List.getElem?_append_left, hi]))
    have := wpAny_of_seq (md := .any) (Q' := Q) (l.drop n) n _ a' w' (fun j => by simp [List.getElem?_drop]) (by simpa using hseq) hw
    simpa using this
  · exact ⟨by simp, fun j oj _ hl => (by rw [getD_replicate_false] at hl; cases hl), fun t _ ht => getD_in (by simpa using ht) (getD_replicate_false _ _)⟩
  · intro i o t hi ho hd hl
    rw [getD_replicate_false] at hl
    cases hl
  · simp
/-- THE LAW, in the form in which it is used: what is asked of each operation is asked of whatever the operands are; behind the first n the frame is the old one with their values put in. -/
theorem wp_region_saidD {id : Nat} {Q : Exit → Act → World → Prop} {a : Act} {w : World} {l : List Oper} (n : Nat) (S : Nat → World → Value → Prop) (hm : P.follows .mixedOrders = true)
    (hB : (depsB .any l.toArray n && Region.sinkB .any l.toArray n && Region.chainB .any l.toArray n && decide (n < l.toArray.size) && Region.seqB .any l.toArray (l.toArray.size - n) n (fullHead n l.toArray.size)) = true)
    (hslots : slotsB l.toArray n a.tmps.size = true) (hplain : plainB l.toArray n = true)
    (mono : ∀ i w v w', S i w v → BelD w.heap.size w w' → S i w' v)
    (hstep : ∀ i o (ρ : Operand → Value) w', i < n → l.toArray[i]? = some o → BelD w.heap.size w w' → (∀ v, ρ (.const v) = v) → (∀ f, ρ (.func f) = .func (.func f) #[] #[]) →
      (∀ t, freeB l.toArray n t = true → ρ (.tmp t) = slotOf a t) → (∀ j t, Region.waitsFor .any l.toArray i j = true → (l.toArray[j]?).bind (·.dst) = some t → S j w' (ρ (.tmp t))) → stepUponD P w' (S i) ((execOp ρ o).run P w'))
    (hend : ∀ (V : Nat → Value) w', BelD w.heap.size w w' → (∀ i, i < n → S i w' (V i)) → wpList P l.toArray Q (l.drop n) (puts V (l.take n) 0 a) w') : (Code.region id l.toArray true).wp P Q a w := by
  have hnl : n ≤ l.length := by
    simp only [Bool.and_eq_true, decide_eq_true_eq] at hB
    have := hB.1.2
    simp at this
    omega
  refine wp_region_invD n S hm hB hslots mono ?_ ?_
  · intro i o a' w' hi ho hb hfr hdep
    refine ⟨?_, hstep i o a'.eval w' hi ho hb (fun _ => rfl) (fun _ => rfl) (fun t ht => ?_) (fun j t hw hj => ?_)⟩
    · have h1 := List.all_eq_true.1 hplain i (List.mem_range.2 hi)
      simp only [ho] at h1
      have h2 : o.guard = none := Option.isNone_iff_eq_none.1 h1
      simp [Region.wanted, h2]
    · refine hfr t fun k ok hk hok hdk => ?_
      have h1 := List.all_eq_true.1 ht k (List.mem_range.2 hk)
      simp only [hok, Option.bind_some, decide_eq_true_eq] at h1
      exact h1 hdk
    · obtain ⟨oi, hoi, e, he, hbd, hon⟩ := Region.waitsFor_spec hw
      have eo : oi = o := Option.some.inj (hoi.symm.trans ho)
      subst eo
      subst hon
      cases hoj : l.toArray[e.on]? with
      | none => rw [hoj] at hj; simp at hj
      | some oj =>
        rw [hoj] at hj
        exact hdep e he hbd oj t hoj (by simpa using hj)
  · intro a' w' hb hdf hsz hfr hS
    have key : a' = puts (fun i => match (l.toArray[i]?).bind (·.dst) with | some t => slotOf a' t | none => undef) (l.take n) 0 a := by
      obtain ⟨h1, h2, h3, h4⟩ := puts_facts (fun i => match (l.toArray[i]?).bind (·.dst) with | some t => slotOf a' t | none => undef) hslots hnl n (Nat.le_refl _)
      refine act_eq (hsz.trans h1.symm) (hdf.trans h2.symm) fun t _ => ?_
      by_cases hx : ∃ i o, i < n ∧ l.toArray[i]? = some o ∧ o.dst = some t
      · obtain ⟨i, o, hi, ho, hd⟩ := hx
        rw [h3 i o t hi ho hd]
        simp only [ho, Option.bind_some, hd]
      · have hx' : ∀ i o, i < n → l.toArray[i]? = some o → o.dst ≠ some t := fun i o hi ho hd => hx ⟨i, o, hi, ho, hd⟩
        rw [h4 t hx', hfr t hx']
    rw [key]
    refine hend _ w' hb fun i hi => ?_
    have hio : l.toArray[i]? = some l[i] := by simp [show i < l.length by omega]
    obtain ⟨t, hd, -, -⟩ := slots_spec (a0 := a) hslots hi hio
    simp only [hio, Option.bind_some, hd]
    exact hS i l[i] t hi hio hd
end
end Go.Proofs.YtimioiaoefhabaaGreat

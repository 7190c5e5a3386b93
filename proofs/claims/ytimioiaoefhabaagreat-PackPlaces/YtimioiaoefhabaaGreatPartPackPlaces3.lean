/- Texts of one chain, laid one behind the other. -/
import Derived.Test.YtimioiaoefhabaaGreatPartPackPlaces2
import Derived.StillTail
namespace Go.Proofs.YtimioiaoefhabaaGreat
open Go Go.ChangeShapes Go.WideShapes Go.ChangeAt Go.RowKit
/-- What is asked of one operation in a world: a value of which S holds, and nothing old turned. -/
def stepUpon (P : Program) (w : World) (S : World → Value → Prop) : Result Next → Prop
  | .ok (.value v) w' => Below w.heap.size w w' ∧ S w' v
  | .ok (.enter f args) w' => w' = w ∧ Calls P f args w (fun e w'' => ∃ v, e = .returned v ∧ Below w.heap.size w w'' ∧ S w'' v)
  | _ => False
def slotOf (a : Act) (t : Nat) : Value := a.tmps.getD t undef
/-- The first n operations' slots: each has one, all are different, and lie in the frame. -/
def slotsB (ops : Array Oper) (n size : Nat) : Bool :=
  (List.range n).all fun i => match (ops[i]?).bind (·.dst) with
    | some t => decide (t < size) && (List.range n).all fun j => decide (i = j) || decide ((ops[j]?).bind (·.dst) ≠ some t)
    | none => false
section
variable {P : Program} {ops : Array Oper} {md : Region.Mode} {S : Nat → World → Value → Prop} {W : World} {a0 : Act} {n : Nat}
theorem slots_spec (h : slotsB ops n a0.tmps.size = true) {i : Nat} {o : Oper} (hi : i < n) (ho : ops[i]? = some o) :
    ∃ t, o.dst = some t ∧ t < a0.tmps.size ∧ ∀ j oj, j < n → ops[j]? = some oj → oj.dst = some t → i = j := by
  have h1 := List.all_eq_true.1 h i (List.mem_range.2 hi)
  rw [ho] at h1
  cases hd : o.dst with
  | none => simp [hd] at h1
  | some t =>
    simp only [Option.bind_some, hd, Bool.and_eq_true, decide_eq_true_eq] at h1
    refine ⟨t, rfl, h1.1, fun j oj hj hoj hd' => ?_⟩
    have h2 := List.all_eq_true.1 h1.2 j (List.mem_range.2 hj)
    simp only [hoj, Option.bind_some, hd', Bool.or_eq_true, decide_eq_true_eq] at h2
    rcases h2 with h2 | h2
    · exact h2
    · exact absurd rfl h2
/-- What holds at every moment of the region. -/
structure Going (md : Region.Mode) (ops : Array Oper) (n : Nat) (S : Nat → World → Value → Prop) (W : World) (a0 : Act) (listed : Array Bool) (a : Act) (w : World) : Prop where
  head : HeadInv md ops n listed
  bel : Below W.heap.size W w
  defers : a.defers = a0.defers
  size : a.tmps.size = a0.tmps.size
  frame : ∀ t, (∀ i o, i < n → ops[i]? = some o → o.dst ≠ some t) → slotOf a t = slotOf a0 t
  vals : ∀ i o t, i < n → ops[i]? = some o → o.dst = some t → listed.getD i false = true → S i w (slotOf a t)
theorem slot_put_same {a : Act} {t : Nat} (v : Value) (h : t < a.tmps.size) : slotOf (a.put (some t) v) t = v := by
  simp [slotOf, Act.put, Array.getD, h]
theorem slot_put_other {a : Act} {t u : Nat} (v : Value) (h : t ≠ u) : slotOf (a.put (some t) v) u = slotOf a u := by
  simp [slotOf, Act.put, Array.getElem?_setIfInBounds_ne h]
theorem Going.next {listed : Array Bool} {a : Act} {w w' : World} {i t : Nat} {o : Oper} {v : Value} (g : Going md ops n S W a0 listed a w) (hslots : slotsB ops n a0.tmps.size = true)
    (mono : ∀ i w v w', S i w v → Below w.heap.size w w' → S i w' v) (hr : i ∈ Region.ready md ops listed) (hi : i < n) (ho : ops[i]? = some o) (hd : o.dst = some t) (hb : Below w.heap.size w w') (hv : S i w' v) :
    Going md ops n S W a0 (listed.setIfInBounds i true) (a.put o.dst v) w' := by
  obtain ⟨t', hd', hlt, huniq⟩ := slots_spec hslots hi ho
  have ht : t' = t := Option.some.inj (hd'.symm.trans hd)
  subst ht
  rw [hd]
  refine ⟨g.head.set hr hi, g.bel.trans (hb.mono g.bel.size), g.defers, by simpa [Act.put] using g.size, fun u hu => ?_, fun j oj u hj hoj hdj hl => ?_⟩
  · rw [slot_put_other v (fun e => hu i o hi ho (by rw [hd, e]))]
    exact g.frame u hu
  · by_cases hji : i = j
    · subst hji
      have e : oj = o := Option.some.inj (hoj.symm.trans ho)
      subst e
      have eu : u = t' := Option.some.inj (hdj.symm.trans hd)
      subst eu
      rw [slot_put_same v (by rw [g.size]; exact hlt)]
      exact hv
    · rw [getD_set_ne false hji] at hl
      have hne : t' ≠ u := fun e => hji (huniq j oj hj hoj (by rw [e]; exact hdj))
      rw [slot_put_other v hne]
      exact mono _ _ _ _ (g.vals j oj u hj hoj hdj hl) hb
/-- Each operation of the first n waits for elder ones alone. -/
def depsB (md : Region.Mode) (ops : Array Oper) (n : Nat) : Bool :=
  (List.range n).all fun i => match ops[i]? with
    | some o => o.after.all fun e => !Region.binds md e || decide (e.on < i)
    | none => false
theorem deps_spec (h : depsB md ops n = true) {i : Nat} {o : Oper} (hi : i < n) (ho : ops[i]? = some o) : ∀ e ∈ o.after, Region.binds md e = true → e.on < i := by
  intro e he hb
  have h1 := List.all_eq_true.1 h i (List.mem_range.2 hi)
  simp only [ho] at h1
  have h2 := Array.all_eq_true'.1 h1 e he
  simpa [hb] using h2
def fullHead (n size : Nat) : Array Bool := (List.replicate n true ++ List.replicate (size - n) false).toArray
theorem count_full (n size : Nat) : (fullHead n size).toList.count false = size - n := by
  simp [fullHead, List.count_append, List.count_replicate]
theorem is_full {listed : Array Bool} (hs : listed.size = ops.size) (hn : n ≤ ops.size) (h1 : ∀ i, i < n → listed.getD i true = true) (h2 : ∀ t, n ≤ t → t < ops.size → listed.getD t true = false) : listed = fullHead n ops.size := by
  apply Array.ext_getElem?
  intro k
  simp only [fullHead, List.getElem?_toArray]
  by_cases hk : k < n
  · have h3 : k < listed.size := by omega
    have h4 := h1 k hk
    simp [h3] at h4
    rw [List.getElem?_append_left (by simpa using hk), List.getElem?_replicate, if_pos hk, Array.getElem?_eq_getElem h3, h4]
  · rw [List.getElem?_append_right (by simp; omega), List.getElem?_replicate]
    simp only [List.length_replicate]
    by_cases hk2 : k < ops.size
    · have h3 : k < listed.size := by omega
      have h4 := h2 k (by omega) hk2
      simp [h3] at h4
      rw [if_pos (by omega), Array.getElem?_eq_getElem h3, h4]
    · rw [if_neg (by omega), Array.getElem?_eq_none (by omega)]
theorem count_set {listed : Array Bool} {i f : Nat} (hi : listed.getD i true = false) (hc : listed.toList.count false = f + 1) : (listed.setIfInBounds i true).toList.count false = f := by
  have h1 : i < listed.size := by
    rcases Nat.lt_or_ge i listed.size with h | h
    · exact h
    · simp [Array.getElem?_eq_none h] at hi
  rw [Array.toList_setIfInBounds, List.count_set (by simpa using h1), hc]
  have h2 : listed[i] = false := by simpa [h1] using hi
  simp [h2]
theorem least_of {p : Nat → Prop} (n : Nat) (h : ∃ i, i < n ∧ p i) : ∃ i, i < n ∧ p i ∧ ∀ j, j < i → ¬ p j := by
  induction n with
  | zero => obtain ⟨i, hi, -⟩ := h; omega
  | succ n ih =>
    by_cases h1 : ∃ i, i < n ∧ p i
    · obtain ⟨i, hi, hp, hm⟩ := ih h1
      exact ⟨i, by omega, hp, hm⟩
    · obtain ⟨i, hi, hp⟩ := h
      have e : i = n := by
        rcases Nat.lt_or_ge i n with k | k
        · exact absurd ⟨i, k, hp⟩ h1
        · omega
      subst e
      exact ⟨i, hi, hp, fun j hj hpj => h1 ⟨j, hj, hpj⟩⟩
theorem Going.any {Q' : Exit → Act → World → Prop} (hslots : slotsB ops n a0.tmps.size = true) (hdeps : depsB md ops n = true) (hsink : Region.sinkB md ops n = true) (hchain : Region.chainB md ops n = true) (hn : n < ops.size)
    (mono : ∀ i w v w', S i w v → Below w.heap.size w w' → S i w' v)
    (hstep : ∀ i o a w, i < n → ops[i]? = some o → Below W.heap.size W w → (∀ t, (∀ i o, i < n → ops[i]? = some o → o.dst ≠ some t) → slotOf a t = slotOf a0 t) →
      (∀ e ∈ o.after, Region.binds md e = true → ∀ oj t, ops[e.on]? = some oj → oj.dst = some t → S e.on w (slotOf a t)) → Region.wanted o (yielded ops a.tmps) = true ∧ stepUpon P w (S i) ((execOp a.eval o).run P w))
    (hend : ∀ a w, Going md ops n S W a0 (fullHead n ops.size) a w → wpAny P md ops Q' (ops.size - n) (fullHead n ops.size) a w) :
    ∀ (f : Nat) (listed : Array Bool) (a : Act) (w : World), Going md ops n S W a0 listed a w → listed.toList.count false = f → wpAny P md ops Q' f listed a w := by
  intro f
  induction f with
  | zero =>
    intro listed a w g hc
    by_cases hall : ∀ i, i < n → listed.getD i true = true
    · have e := is_full g.head.size (by omega) hall g.head.tail
      subst e
      rw [count_full] at hc
      have := hend a w g
      rwa [hc] at this
    · exfalso
      have h0 := g.head.tail n (Nat.le_refl _) hn
      have hin : n < listed.size := by rw [g.head.size]; exact hn
      have hmem : false ∈ listed.toList := by
        have : listed[n] = false := by simpa [hin] using h0
        rw [← this]; simp
      have := List.count_pos_iff.2 hmem
      omega
  | succ f ih =>
    intro listed a w g hc
    by_cases hall : ∀ i, i < n → listed.getD i true = true
    · have e := is_full g.head.size (by omega) hall g.head.tail
      subst e
      have h := hend a w g
      rw [count_full] at hc
      rwa [hc] at h
    · obtain ⟨i0, hi0, hu0, hmin⟩ := least_of (p := fun i => listed.getD i true = false) n (by
        by_cases h : ∃ i, i < n ∧ listed.getD i true = false
        · exact h
        · exact absurd (fun i hi => by cases hx : listed.getD i true with | true => rfl | false => exact absurd ⟨i, hi, hx⟩ h) hall)
      obtain ⟨o0, ho0⟩ : ∃ o, ops[i0]? = some o := ⟨ops[i0]'(by omega), Array.getElem?_eq_getElem (by omega)⟩
      have hr0 : i0 ∈ Region.ready md ops listed := by
        refine mem_ready.2 ⟨hu0, o0, ho0, fun e he hb => ?_⟩
        have hlt := deps_spec hdeps hi0 ho0 e he hb
        have hl : listed.getD e.on true = true := by
          cases hx : listed.getD e.on true with
          | true => rfl
          | false => exact absurd hx (hmin _ hlt)
        have hin : e.on < listed.size := by rw [g.head.size]; omega
        simpa [hin] using hl
      refine ⟨fun h => (by rw [h] at hr0; cases hr0), fun j hj => ?_⟩
      have hjn : j < n := by
        rcases Nat.lt_or_ge j n with h | h
        · exact h
        · exact absurd hj (tail_waits hsink hchain hn g.head _ i0 rfl hi0 hu0 j h)
      obtain ⟨hjun, oj, hoj, hall'⟩ := mem_ready.1 hj
      obtain ⟨t, hd, -, -⟩ := slots_spec hslots hjn hoj
      have hdep : ∀ e ∈ oj.after, Region.binds md e = true → ∀ ok u, ops[e.on]? = some ok → ok.dst = some u → S e.on w (slotOf a u) := fun e he hb ok u hok hdk => by
        have hl := hall' e he hb
        exact g.vals e.on ok u (Nat.lt_trans (deps_spec hdeps hjn hoj e he hb) hjn) hok hdk hl
      obtain ⟨hw, hs⟩ := hstep j oj a w hjn hoj g.bel g.frame hdep
      unfold wpOp
      simp only [hoj, hw, if_true]
      refine .inl ?_
      unfold Oper.wp
      generalize (execOp a.eval oj).run P w = r at *
      cases r with
      | ok nx w' =>
        cases nx <;> simp only [stepUpon] at hs
        case value v => exact ih _ _ _ (g.next hslots mono hj hjn hoj hd hs.1 hs.2) (count_set hjun hc)
        case enter fn args =>
          obtain ⟨rfl, hcall⟩ := hs
          exact hcall.mono fun e w'' ⟨v, he, hb, hv⟩ => by
            subst he
            exact ih _ _ _ (g.next hslots mono hj hjn hoj hd hb hv) (count_set hjun hc)
      | halt x w' => simp only [stepUpon] at hs
/-- THE LAW: the first n operations by their sentences, in whatever order; then the others, one behind the other. -/
theorem wp_region_inv {id : Nat} {Q : Exit → Act → World → Prop} {a : Act} {w : World} {l : List Oper} (n : Nat) (S : Nat → World → Value → Prop) (hm : P.follows .mixedOrders = true)
    (hB : (depsB .any l.toArray n && Region.sinkB .any l.toArray n && Region.chainB .any l.toArray n && decide (n < l.toArray.size) && Region.seqB .any l.toArray (l.toArray.size - n) n (fullHead n l.toArray.size)) = true)
    (hslots : slotsB l.toArray n a.tmps.size = true)
    (mono : ∀ i w v w', S i w v → Below w.heap.size w w' → S i w' v)
    (hstep : ∀ i o a' w', i < n → l.toArray[i]? = some o → Below w.heap.size w w' → (∀ t, (∀ i o, i < n → l.toArray[i]? = some o → o.dst ≠ some t) → slotOf a' t = slotOf a t) →
      (∀ e ∈ o.after, Region.binds .any e = true → ∀ oj t, l.toArray[e.on]? = some oj → oj.dst = some t → S e.on w' (slotOf a' t)) → Region.wanted o (yielded l.toArray a'.tmps) = true ∧ stepUpon P w' (S i) ((execOp a'.eval o).run P w'))
    (hend : ∀ a' w', Below w.heap.size w w' → a'.defers = a.defers → a'.tmps.size = a.tmps.size → (∀ t, (∀ i o, i < n → l.toArray[i]? = some o → o.dst ≠ some t) → slotOf a' t = slotOf a t) →
      (∀ i o t, i < n → l.toArray[i]? = some o → o.dst = some t → S i w' (slotOf a' t)) → wpList P l.toArray Q (l.drop n) a' w') : (Code.region id l.toArray true).wp P Q a w := by
  simp only [Bool.and_eq_true, decide_eq_true_eq] at hB
  obtain ⟨⟨⟨⟨hdeps, hsink⟩, hchain⟩, hn⟩, hseq⟩ := hB
  refine wp_region_any hm ?_
  have hdrew : Below w.heap.size w { w with drawn := w.drawn + 1 } := (Below.refl _ _).drew
  refine Going.any (W := w) (a0 := a) (S := S) hslots hdeps hsink hchain hn mono hstep ?_ l.toArray.size _ a _ ⟨?_, hdrew, rfl, rfl, fun _ _ => rfl, ?_⟩ ?_
  · intro a' w' g
    have hw := hend a' w' g.bel g.defers g.size g.frame (fun i o t hi ho hd => g.vals i o t hi ho hd (by
      have hin : i < (fullHead n l.toArray.size).size := by rw [g.head.size]; omega
      simp [fullHead, List.getElem?_append_left, hi]))
    have := wpAny_of_seq (md := .any) (Q' := Q) (l.drop n) n _ a' w' (fun j => by simp [List.getElem?_drop]) (by simpa using hseq) hw
    simpa using this
  · exact ⟨by simp, fun j oj _ hl => (by rw [getD_replicate_false] at hl; cases hl), fun t _ ht => getD_in (by simpa using ht) (getD_replicate_false _ _)⟩
  · intro i o t hi ho hd hl
    rw [getD_replicate_false] at hl
    cases hl
  · simp
/-- A frame with values put into the slots of some operations. -/
def puts (V : Nat → Value) : List Oper → Nat → Act → Act
  | [], _, a => a
  | o :: os, k, a => puts V os (k + 1) (a.put o.dst (V k))
theorem puts_snoc (V : Nat → Value) (o : Oper) : ∀ (os : List Oper) (k : Nat) (a : Act), puts V (os ++ [o]) k a = (puts V os k a).put o.dst (V (k + os.length))
  | [], k, a => rfl
  | x :: os, k, a => by
    show puts V (os ++ [o]) (k + 1) (a.put x.dst (V k)) = _
    rw [puts_snoc V o os (k + 1), List.length_cons, show k + 1 + os.length = k + (os.length + 1) by omega]
    rfl
theorem puts_facts (V : Nat → Value) {l : List Oper} {a : Act} (hslots : slotsB l.toArray n a.tmps.size = true) (hn : n ≤ l.length) :
    ∀ m, m ≤ n → (puts V (l.take m) 0 a).tmps.size = a.tmps.size ∧ (puts V (l.take m) 0 a).defers = a.defers ∧
      (∀ i o t, i < m → l.toArray[i]? = some o → o.dst = some t → slotOf (puts V (l.take m) 0 a) t = V i) ∧
      (∀ t, (∀ i o, i < m → l.toArray[i]? = some o → o.dst ≠ some t) → slotOf (puts V (l.take m) 0 a) t = slotOf a t) := by
  intro m
  induction m with
  | zero => intro _; exact ⟨rfl, rfl, fun i o t hi => absurd hi (Nat.not_lt_zero _), fun t _ => rfl⟩
  | succ m ih =>
    intro hm
    obtain ⟨h1, h2, h3, h4⟩ := ih (by omega)
    have hml : m < l.length := by omega
    have hom : l.toArray[m]? = some l[m] := by simp [hml]
    obtain ⟨t, hd, hlt, huniq⟩ := slots_spec (a0 := a) hslots (i := m) (by omega) hom
    have e : l.take (m + 1) = l.take m ++ [l[m]] := by rw [List.take_add_one, List.getElem?_eq_getElem hml]; rfl
    have e2 : puts V (l.take (m + 1)) 0 a = (puts V (l.take m) 0 a).put (some t) (V m) := by
      rw [e, puts_snoc, hd, List.length_take, Nat.min_eq_left (by omega), Nat.zero_add]
    rw [e2]
    refine ⟨by simpa [Act.put] using h1, h2, fun i o u hi ho hdo => ?_, fun u hu => ?_⟩
    · by_cases him : i = m
      · subst him
        have eo : o = l[i] := Option.some.inj (ho.symm.trans hom)
        subst eo
        have eu : u = t := Option.some.inj (hdo.symm.trans hd)
        subst eu
        exact slot_put_same _ (by rw [h1]; exact hlt)
      · have hne : t ≠ u := fun eu => him (huniq i o (by omega) ho (by rw [eu]; exact hdo)).symm
        rw [slot_put_other _ hne]
        exact h3 i o u (by omega) ho hdo
    · have hne : t ≠ u := fun eu => hu m l[m] (by omega) hom (by rw [hd, eu])
      rw [slot_put_other _ hne]
      exact h4 u (fun i o hi ho => hu i o (by omega) ho)
theorem act_eq {a b : Act} (h1 : a.tmps.size = b.tmps.size) (h2 : a.defers = b.defers) (h3 : ∀ t, t < b.tmps.size → slotOf a t = slotOf b t) : a = b := by
  obtain ⟨x, d⟩ := a
  obtain ⟨y, e⟩ := b
  simp only at h1 h2
  subst h2
  have : x = y := by
    apply Array.ext h1
    intro i hi hj
    have := h3 i hj
    simpa [slotOf, hi, hj] using this
  rw [this]
/-- No operation of the first n writes slot t. -/
def freeB (ops : Array Oper) (n t : Nat) : Bool := (List.range n).all fun i => decide ((ops[i]?).bind (·.dst) ≠ some t)
def plainB (ops : Array Oper) (n : Nat) : Bool := (List.range n).all fun i => match ops[i]? with | some o => o.guard.isNone | none => false
/-- THE LAW, in the form in which it is used: what is asked of each operation is asked of whatever the operands are; behind the first n the frame is the old one with their values put in. -/
theorem wp_region_said {id : Nat} {Q : Exit → Act → World → Prop} {a : Act} {w : World} {l : List Oper} (n : Nat) (S : Nat → World → Value → Prop) (hm : P.follows .mixedOrders = true)
    (hB : (depsB .any l.toArray n && Region.sinkB .any l.toArray n && Region.chainB .any l.toArray n && decide (n < l.toArray.size) && Region.seqB .any l.toArray (l.toArray.size - n) n (fullHead n l.toArray.size)) = true)
    (hslots : slotsB l.toArray n a.tmps.size = true) (hplain : plainB l.toArray n = true)
    (mono : ∀ i w v w', S i w v → Below w.heap.size w w' → S i w' v)
    (hstep : ∀ i o (ρ : Operand → Value) w', i < n → l.toArray[i]? = some o → Below w.heap.size w w' → (∀ v, ρ (.const v) = v) → (∀ f, ρ (.func f) = .func (.func f) #[] #[]) →
      (∀ t, freeB l.toArray n t = true → ρ (.tmp t) = slotOf a t) → (∀ j t, Region.waitsFor .any l.toArray i j = true → (l.toArray[j]?).bind (·.dst) = some t → S j w' (ρ (.tmp t))) → stepUpon P w' (S i) ((execOp ρ o).run P w'))
    (hend : ∀ (V : Nat → Value) w', Below w.heap.size w w' → (∀ i, i < n → S i w' (V i)) → wpList P l.toArray Q (l.drop n) (puts V (l.take n) 0 a) w') : (Code.region id l.toArray true).wp P Q a w := by
  have hnl : n ≤ l.length := by
    simp only [Bool.and_eq_true, decide_eq_true_eq] at hB
    have := hB.1.2
    simp at this
    omega
  refine wp_region_inv n S hm hB hslots mono ?_ ?_
  · intro i o a' w' hi ho hb hfr hdep
    refine ⟨?_, hstep i o a'.eval w' hi ho hb (fun _ => rfl) (fun _ => rfl) (fun t ht => ?_) (fun j t hw hj => ?_)⟩
    · have h1 := List.all_eq_true.1 hplain i (List.mem_range.2 hi)
      simp only [ho] at h1
      have h2 : o.guard = none := Option.isNone_iff_eq_none.1 h1
      simp [Region.wanted, h2]
    · refine hfr t fun k ok hk hok hdk => ?_
      have h1 := List.all_eq_true.1 ht k (List.mem_range.2 hk)
      simp only [hok, Option.bind_some, decide_eq_true_eq] at h1
      exact h1 hdk
    · obtain ⟨oi, hoi, e, he, hbd, hon⟩ := Region.waitsFor_spec hw
      have eo : oi = o := Option.some.inj (hoi.symm.trans ho)
      subst eo
      subst hon
      cases hoj : l.toArray[e.on]? with
      | none => rw [hoj] at hj; simp at hj
      | some oj =>
        rw [hoj] at hj
        exact hdep e he hbd oj t hoj (by simpa using hj)
  · intro a' w' hb hdf hsz hfr hS
    have key : a' = puts (fun i => match (l.toArray[i]?).bind (·.dst) with | some t => slotOf a' t | none => undef) (l.take n) 0 a := by
      obtain ⟨h1, h2, h3, h4⟩ := puts_facts (fun i => match (l.toArray[i]?).bind (·.dst) with | some t => slotOf a' t | none => undef) hslots hnl n (Nat.le_refl _)
      refine act_eq (hsz.trans h1.symm) (hdf.trans h2.symm) fun t _ => ?_
      by_cases hx : ∃ i o, i < n ∧ l.toArray[i]? = some o ∧ o.dst = some t
      · obtain ⟨i, o, hi, ho, hd⟩ := hx
        rw [h3 i o t hi ho hd]
        simp only [ho, Option.bind_some, hd]
      · have hx' : ∀ i o, i < n → l.toArray[i]? = some o → o.dst ≠ some t := fun i o hi ho hd => hx ⟨i, o, hi, ho, hd⟩
        rw [h4 t hx', hfr t hx']
    rw [key]
    refine hend _ w' hb fun i hi => ?_
    have hio : l.toArray[i]? = some l[i] := by simp [show i < l.length by omega]
    obtain ⟨t, hd, -, -⟩ := slots_spec (a0 := a) hslots hi hio
    simp only [hio, Option.bind_some, hd]
    exact hS i l[i] t hi hio hd
end
/-- All operations' slots: each but the store has one, all are different, and lie in the frame. -/
def slotsA (ops : Array Oper) (st size : Nat) : Bool :=
  (List.range ops.size).all fun i => match (ops[i]?).bind (·.dst) with
    | some t => decide (i ≠ st) && (decide (t < size) && (List.range ops.size).all fun j => decide (i = j) || decide ((ops[j]?).bind (·.dst) ≠ some t))
    | none => decide (i = st)
section
variable {P : Program} {ops : Array Oper} {S : Bool → Nat → World → Value → Prop} {W : World} {a0 : Act} {st : Nat}
theorem in_ops {i : Nat} {o : Oper} (h : ops[i]? = some o) : i < ops.size := by
  rcases Nat.lt_or_ge i ops.size with k | k
  · exact k
  · rw [Array.getElem?_eq_none k] at h; cases h
theorem slotsA_spec {size : Nat} (h : slotsA ops st size = true) {i : Nat} {o : Oper} (ho : ops[i]? = some o) :
    (i = st ∧ o.dst = none) ∨ (i ≠ st ∧ ∃ t, o.dst = some t ∧ t < size ∧ ∀ j oj, ops[j]? = some oj → oj.dst = some t → i = j) := by
  have h1 := List.all_eq_true.1 h i (List.mem_range.2 (in_ops ho))
  rw [ho] at h1
  cases hd : o.dst with
  | none =>
    simp only [Option.bind_some, hd, decide_eq_true_eq] at h1
    exact .inl ⟨h1, rfl⟩
  | some t =>
    simp only [Option.bind_some, hd, Bool.and_eq_true, decide_eq_true_eq] at h1
    refine .inr ⟨h1.1, t, rfl, h1.2.1, fun j oj hoj hd' => ?_⟩
    have h2 := List.all_eq_true.1 h1.2.2 j (List.mem_range.2 (in_ops hoj))
    simp only [hoj, Option.bind_some, hd', Bool.or_eq_true, decide_eq_true_eq] at h2
    rcases h2 with h2 | h2
    · exact h2
    · exact absurd rfl h2
/-- What holds at every moment of the region. -/
structure GoingA (ops : Array Oper) (st : Nat) (S : Bool → Nat → World → Value → Prop) (W : World) (a0 : Act) (listed : Array Bool) (a : Act) (w : World) : Prop where
  lsize : listed.size = ops.size
  closed : ∀ i o, ops[i]? = some o → listed.getD i false = true → ∀ e ∈ o.after, Region.binds .any e = true → listed.getD e.on false = true
  bel : Below W.heap.size W w
  defers : a.defers = a0.defers
  size : a.tmps.size = a0.tmps.size
  frame : ∀ t, (∀ (i : Nat) (o : Oper), ops[i]? = some o → o.dst ≠ some t) → slotOf a t = slotOf a0 t
  vals : ∀ i o t, ops[i]? = some o → o.dst = some t → listed.getD i false = true → S (listed.getD st false) i w (slotOf a t)
theorem closed_next {listed : Array Bool} {i : Nat} {oi : Oper} (hoi : ops[i]? = some oi) (hc : ∀ i o, ops[i]? = some o → listed.getD i false = true → ∀ e ∈ o.after, Region.binds .any e = true → listed.getD e.on false = true)
    (hall : ∀ e ∈ oi.after, Region.binds .any e = true → listed.getD e.on false = true) :
    ∀ j o, ops[j]? = some o → (listed.setIfInBounds i true).getD j false = true → ∀ e ∈ o.after, Region.binds .any e = true → (listed.setIfInBounds i true).getD e.on false = true := by
  intro j o ho hl e he hb
  by_cases hij : i = j
  · subst hij
    have eo : o = oi := Option.some.inj (ho.symm.trans hoi)
    subst eo
    exact getD_set_true (hall e he hb)
  · rw [getD_set_ne false hij] at hl
    exact getD_set_true (hc j o ho hl e he hb)
theorem GoingA.next {listed : Array Bool} {a : Act} {w w' : World} {i t : Nat} {o : Oper} {v : Value} (g : GoingA ops st S W a0 listed a w) (hslots : slotsA ops st a0.tmps.size = true)
    (mono : ∀ b i w v w', S b i w v → Below w.heap.size w w' → S b i w' v) (hall : ∀ e ∈ o.after, Region.binds .any e = true → listed.getD e.on false = true) (ho : ops[i]? = some o) (hd : o.dst = some t) (hb : Below w.heap.size w w') (hv : S (listed.getD st false) i w' v) :
    GoingA ops st S W a0 (listed.setIfInBounds i true) (a.put o.dst v) w' := by
  rcases slotsA_spec hslots ho with ⟨-, h0⟩ | ⟨hne, t', hd', hlt, huniq⟩
  · rw [h0] at hd; cases hd
  have ht : t' = t := Option.some.inj (hd'.symm.trans hd)
  subst ht
  refine ⟨by simpa using g.lsize, closed_next ho g.closed hall, g.bel.trans (hb.mono g.bel.size), ?_, ?_, ?_, ?_⟩
  · rw [hd]; exact g.defers
  · rw [hd]; simpa [Act.put] using g.size
  · intro u hu
    rw [hd, slot_put_other v (fun e => hu i o ho (by rw [hd, e]))]
    exact g.frame u hu
  · intro j oj u hoj hdj hl
    rw [getD_set_ne false hne, hd]
    by_cases hji : i = j
    · subst hji
      have e : oj = o := Option.some.inj (hoj.symm.trans ho)
      subst e
      have eu : u = t' := Option.some.inj (hdj.symm.trans hd)
      subst eu
      rw [slot_put_same v (by rw [g.size]; exact hlt)]
      exact hv
    · rw [getD_set_ne false hji] at hl
      have hne' : t' ≠ u := fun e => hji (huniq j oj hoj (by rw [e]; exact hdj))
      rw [slot_put_other v hne']
      exact mono _ _ _ _ _ (g.vals j oj u hoj hdj hl) hb
theorem GoingA.stored {listed : Array Bool} {a : Act} {w w' : World} {o : Oper} {v : Value} (g : GoingA ops st S W a0 listed a w) (hin : st < listed.size) (hun : listed.getD st true = false)
    (hall : ∀ e ∈ o.after, Region.binds .any e = true → listed.getD e.on false = true) (ho : ops[st]? = some o) (hd : o.dst = none) (hb : Below W.heap.size W w')
    (hv : ∀ i oi t, ops[i]? = some oi → oi.dst = some t → S false i w (slotOf a t) → S true i w' (slotOf a t)) :
    GoingA ops st S W a0 (listed.setIfInBounds st true) (a.put o.dst v) w' := by
  rw [hd]
  have h0 : listed.getD st false = false := by simp [hin] at hun ⊢; exact hun
  have h1 : (listed.setIfInBounds st true).getD st false = true := by simp [hin]
  refine ⟨by simpa using g.lsize, closed_next ho g.closed hall, hb, g.defers, g.size, g.frame, fun j oj u hoj hdj hl => ?_⟩
  rw [h1]
  by_cases hji : st = j
  · subst hji
    have e : oj = o := Option.some.inj (hoj.symm.trans ho)
    subst e
    rw [hd] at hdj; cases hdj
  · rw [getD_set_ne false hji] at hl
    have := g.vals j oj u hoj hdj hl
    rw [h0] at this
    exact hv j oj u hoj hdj this
theorem all_of_count {listed : Array Bool} (h : listed.toList.count false = 0) : ∀ i, i < listed.size → listed.getD i false = true := by
  intro i hi
  have hx : listed[i] ≠ false := fun e => by
    have hm : false ∈ listed.toList := by rw [← e]; simp
    have := List.count_pos_iff.2 hm
    omega
  simp [hi]
  simpa using hx
theorem GoingA.any {Q' : Exit → Act → World → Prop} (hslots : slotsA ops st a0.tmps.size = true) (hdeps : depsB .any ops ops.size = true)
    (mono : ∀ b i w v w', S b i w v → Below w.heap.size w w' → S b i w' v)
    (hstep : ∀ b i o a w, i ≠ st → ops[i]? = some o → (Region.waitsFor .any ops st i = true → b = false) → Below W.heap.size W w → (∀ t, (∀ (i : Nat) (o : Oper), ops[i]? = some o → o.dst ≠ some t) → slotOf a t = slotOf a0 t) →
      (∀ e ∈ o.after, Region.binds .any e = true → ∀ oj t, ops[e.on]? = some oj → oj.dst = some t → S b e.on w (slotOf a t)) → Region.wanted o (yielded ops a.tmps) = true ∧ stepUpon P w (S b i) ((execOp a.eval o).run P w))
    (hstore : ∀ o a w, ops[st]? = some o → Below W.heap.size W w →
      (∀ e ∈ o.after, Region.binds .any e = true → ∀ oj t, ops[e.on]? = some oj → oj.dst = some t → S false e.on w (slotOf a t)) → Region.wanted o (yielded ops a.tmps) = true ∧
        ∃ w', (execOp a.eval o).run P w = .ok .skip w' ∧ Below W.heap.size W w' ∧ ∀ i oi t, ops[i]? = some oi → oi.dst = some t → S false i w (slotOf a t) → S true i w' (slotOf a t))
    (hsto : ∀ o, ops[st]? = some o → o.dst = none)
    (hend : ∀ (listed : Array Bool) a w, GoingA ops st S W a0 listed a w → (∀ i, i < ops.size → listed.getD i false = true) → Q' .normal a w) :
    ∀ (f : Nat) (listed : Array Bool) (a : Act) (w : World), GoingA ops st S W a0 listed a w → listed.toList.count false = f → wpAny P .any ops Q' f listed a w := by
  intro f
  induction f with
  | zero =>
    intro listed a w g hc
    have hall := all_of_count hc
    refine ⟨List.eq_nil_iff_forall_not_mem.2 fun j hj => ?_, hend listed a w g (fun i hi => hall i (by rw [g.lsize]; exact hi))⟩
    obtain ⟨h1, oj, hoj, -⟩ := mem_ready.1 hj
    have hin : j < listed.size := by rw [g.lsize]; exact in_ops hoj
    have h2 := hall j hin
    simp [hin] at h1 h2
    rw [h1] at h2; cases h2
  | succ f ih =>
    intro listed a w g hc
    refine ⟨fun hnil => ?_, fun j hj => ?_⟩
    · exfalso
      have hmem : false ∈ listed.toList := List.count_pos_iff.1 (by omega)
      obtain ⟨k, hk, hk2⟩ := List.mem_iff_getElem.1 hmem
      have hks : k < listed.size := by simpa using hk
      obtain ⟨i0, hi0, hu0, hmin⟩ := least_of (p := fun i => listed.getD i true = false) listed.size ⟨k, hks, by simp [hks]; simpa using hk2⟩
      have hi0' : i0 < ops.size := by rw [← g.lsize]; exact hi0
      obtain ⟨o0, ho0⟩ : ∃ o, ops[i0]? = some o := ⟨ops[i0], Array.getElem?_eq_getElem hi0'⟩
      have hr0 : i0 ∈ Region.ready .any ops listed := by
        refine mem_ready.2 ⟨hu0, o0, ho0, fun e he hb => ?_⟩
        have hlt := deps_spec hdeps hi0' ho0 e he hb
        have hl : listed.getD e.on true = true := by
          cases hx : listed.getD e.on true with
          | true => rfl
          | false => exact absurd hx (hmin _ hlt)
        have hin : e.on < listed.size := by omega
        simpa [hin] using hl
      rw [hnil] at hr0; cases hr0
    · obtain ⟨hjun, oj, hoj, hall'⟩ := mem_ready.1 hj
      have hjin : j < listed.size := by rw [g.lsize]; exact in_ops hoj
      have hdep : ∀ e ∈ oj.after, Region.binds .any e = true → ∀ ok u, ops[e.on]? = some ok → ok.dst = some u → S (listed.getD st false) e.on w (slotOf a u) :=
        fun e he hb ok u hok hdk => g.vals e.on ok u hok hdk (hall' e he hb)
      by_cases hjst : j = st
      · subst hjst
        have h0 : listed.getD j false = false := by simp [hjin] at hjun ⊢; exact hjun
        rw [h0] at hdep
        obtain ⟨hw, w', hrun, hbw, hvs⟩ := hstore oj a w hoj g.bel hdep
        unfold wpOp
        simp only [hoj, hw, if_true]
        refine .inl ?_
        unfold Oper.wp
        rw [hrun]
        exact ih _ _ _ (g.stored hjin hjun hall' hoj (hsto oj hoj) hbw hvs) (count_set hjun hc)
      · rcases slotsA_spec hslots hoj with ⟨h0, -⟩ | ⟨-, t, hd, -, -⟩
        · exact absurd h0 hjst
        have hfree : Region.waitsFor .any ops st j = true → listed.getD st false = false := fun hwt => by
          obtain ⟨os, hos, e, he, hbd, hon⟩ := Region.waitsFor_spec hwt
          cases hx : listed.getD st false with
          | false => rfl
          | true =>
            have h1 := g.closed st os hos hx e he hbd
            rw [hon] at h1
            simp [hjin] at hjun h1
            rw [hjun] at h1; cases h1
        obtain ⟨hw, hs⟩ := hstep (listed.getD st false) j oj a w hjst hoj hfree g.bel g.frame hdep
        unfold wpOp
        simp only [hoj, hw, if_true]
        refine .inl ?_
        unfold Oper.wp
        generalize (execOp a.eval oj).run P w = r at *
        cases r with
        | ok nx w' =>
          cases nx <;> simp only [stepUpon] at hs
          case value v => exact ih _ _ _ (g.next hslots mono hall' hoj hd hs.1 hs.2) (count_set hjun hc)
          case enter fn args =>
            obtain ⟨rfl, hcall⟩ := hs
            exact hcall.mono fun e w'' ⟨v, he, hb, hv⟩ => by
              subst he
              exact ih _ _ _ (g.next hslots mono hall' hoj hd hb hv) (count_set hjun hc)
        | halt x w' => simp only [stepUpon] at hs
theorem put_none (a : Act) (v : Value) : a.put none v = a := rfl
end
/-- Each operation has a slot, or is a mark; all slots are different, and lie in the frame. -/
def slotsG (ops : Array Oper) (ms : List Nat) (size : Nat) : Bool :=
  (List.range ops.size).all fun i => match (ops[i]?).bind (·.dst) with
    | some t => decide (t < size) && (List.range ops.size).all fun j => decide (i = j) || decide ((ops[j]?).bind (·.dst) ≠ some t)
    | none => ms.contains i
/-- The marks that are done. -/
def doneOf (ms : List Nat) (listed : Array Bool) : Nat → Bool := fun s => ms.contains s && listed.getD s false
def doneAt (d : Nat → Bool) (s : Nat) : Nat → Bool := fun j => if j = s then true else d j
/-- Slot t is still the old one when operation i comes. -/
def freeAt (ops : Array Oper) (i t : Nat) : Bool := (List.range ops.size).all fun k => decide ((ops[k]?).bind (·.dst) ≠ some t) || (decide (k = i) || Region.waitsFor .any ops k i)
/-- Whether a guard lets an operation by. -/
def wantsB (ops : Array Oper) (ρ : Operand → Value) (o : Oper) : Bool := match o.guard with
  | none => true
  | some (g, b) => match (ops[g]?).bind (·.dst) with
    | some t => (match ρ (.tmp t) with | .bool c => c == b | _ => false)
    | none => false
/-- What is asked of a mark. -/
def markUpon (P : Program) (w : World) (T : World → Value → Prop) : Result Next → Prop
  | .ok .skip w' => T w' undef
  | .ok (.value v) w' => T w' v
  | .ok (.enter f args) w' => w' = w ∧ Calls P f args w (fun e w'' => ∃ v, e = .returned v ∧ T w'' v)
  | _ => False
theorem markUpon_mono {P : Program} {w : World} {T T' : World → Value → Prop} {r : Result Next} (h : markUpon P w T r) (hT : ∀ w v, T w v → T' w v) : markUpon P w T' r := by
  cases r with
  | ok nx w' =>
    cases nx <;> simp only [markUpon] at h ⊢
    case value v => exact hT _ _ h
    case skip => exact hT _ _ h
    case enter f args => exact ⟨h.1, h.2.mono fun e w'' ⟨v, he, hv⟩ => ⟨v, he, hT _ _ hv⟩⟩
  | halt x w' => exact h
theorem markUpon_skip {P : Program} {w w' : World} {T : World → Value → Prop} {r : Result Next} (hr : r = .ok .skip w') (h : T w' undef) : markUpon P w T r := by
  rw [hr]; exact h
section
variable {P : Program} {ops : Array Oper} {S : (Nat → Bool) → Nat → World → Value → Prop} {C : (Nat → Bool) → World → Prop} {a0 : Act} {ms : List Nat}
theorem slotsG_spec {size : Nat} (h : slotsG ops ms size = true) {i : Nat} {o : Oper} (ho : ops[i]? = some o) :
    (ms.contains i = true ∧ o.dst = none) ∨ (∃ t, o.dst = some t ∧ t < size ∧ ∀ j oj, ops[j]? = some oj → oj.dst = some t → i = j) := by
  have h1 := List.all_eq_true.1 h i (List.mem_range.2 (in_ops ho))
  rw [ho] at h1
  cases hd : o.dst with
  | none =>
    simp only [Option.bind_some, hd] at h1
    exact .inl ⟨h1, rfl⟩
  | some t =>
    simp only [Option.bind_some, hd, Bool.and_eq_true, decide_eq_true_eq] at h1
    refine .inr ⟨t, rfl, h1.1, fun j oj hoj hd' => ?_⟩
    have h2 := List.all_eq_true.1 h1.2 j (List.mem_range.2 (in_ops hoj))
    simp only [hoj, Option.bind_some, hd', Bool.or_eq_true, decide_eq_true_eq] at h2
    rcases h2 with h2 | h2
    · exact h2
    · exact absurd rfl h2
theorem done_other {listed : Array Bool} {i : Nat} (h : ms.contains i = false) : doneOf ms (listed.setIfInBounds i true) = doneOf ms listed := by
  funext s
  unfold doneOf
  by_cases e : i = s
  · subst e; rw [h]; rfl
  · rw [getD_set_ne false e]
theorem done_mark {listed : Array Bool} {i : Nat} (h : ms.contains i = true) (hi : i < listed.size) : doneOf ms (listed.setIfInBounds i true) = doneAt (doneOf ms listed) i := by
  funext s
  unfold doneOf doneAt
  by_cases e : s = i
  · subst e
    rw [h, if_pos rfl]
    simp [hi]
  · rw [getD_set_ne false (Ne.symm e), if_neg e]
/-- What holds at every moment of the region. -/
structure GoingG (ops : Array Oper) (ms : List Nat) (S : (Nat → Bool) → Nat → World → Value → Prop) (C : (Nat → Bool) → World → Prop) (a0 : Act) (listed : Array Bool) (a : Act) (w : World) : Prop where
  lsize : listed.size = ops.size
  closed : ∀ i o, ops[i]? = some o → listed.getD i false = true → ∀ e ∈ o.after, Region.binds .any e = true → listed.getD e.on false = true
  bel : C (doneOf ms listed) w
  defers : a.defers = a0.defers
  size : a.tmps.size = a0.tmps.size
  frame : ∀ t, (∀ (i : Nat) (o : Oper), ops[i]? = some o → o.dst = some t → listed.getD i false = false) → slotOf a t = slotOf a0 t
  vals : ∀ i o t, ops[i]? = some o → o.dst = some t → listed.getD i false = true → S (doneOf ms listed) i w (slotOf a t)
/-- One operation more: its value in its slot, if it has one; what the sentences have become. -/
theorem GoingG.next {listed : Array Bool} {a : Act} {w w' : World} {i : Nat} {o : Oper} {v : Value} (g : GoingG ops ms S C a0 listed a w) (hslots : slotsG ops ms a0.tmps.size = true)
    (hall : ∀ e ∈ o.after, Region.binds .any e = true → listed.getD e.on false = true) (ho : ops[i]? = some o)
    (hC : C (doneOf ms (listed.setIfInBounds i true)) w') (hv : o.dst ≠ none → S (doneOf ms (listed.setIfInBounds i true)) i w' v)
    (turn : ∀ j oj t, ops[j]? = some oj → oj.dst = some t → S (doneOf ms listed) j w (slotOf a t) → S (doneOf ms (listed.setIfInBounds i true)) j w' (slotOf a t)) :
    GoingG ops ms S C a0 (listed.setIfInBounds i true) (a.put o.dst v) w' := by
  have hin : i < listed.size := by rw [g.lsize]; exact in_ops ho
  have hset : (listed.setIfInBounds i true).getD i false = true := by simp [hin]
  rcases slotsG_spec hslots ho with ⟨-, hd⟩ | ⟨t, hd, hlt, huniq⟩
  · rw [hd]
    refine ⟨by simpa using g.lsize, closed_next ho g.closed hall, hC, g.defers, g.size, fun t ht => ?_, fun j oj u hoj hdj hl => ?_⟩
    · refine g.frame t fun j oj hoj hdj => ?_
      have h1 := ht j oj hoj hdj
      by_cases hji : i = j
      · subst hji; rw [hset] at h1; cases h1
      · rw [getD_set_ne false hji] at h1; exact h1
    · by_cases hji : i = j
      · subst hji
        have e : oj = o := Option.some.inj (hoj.symm.trans ho)
        subst e
        rw [hd] at hdj; cases hdj
      · rw [getD_set_ne false hji] at hl
        exact turn j oj u hoj hdj (g.vals j oj u hoj hdj hl)
  · rw [hd]
    refine ⟨by simpa using g.lsize, closed_next ho g.closed hall, hC, g.defers, by simpa [Act.put] using g.size, fun u hu => ?_, fun j oj u hoj hdj hl => ?_⟩
    · have hne : t ≠ u := fun e => by
        subst e
        have h1 := hu i o ho hd
        rw [hset] at h1; cases h1
      rw [slot_put_other v hne]
      refine g.frame u fun j oj hoj hdj => ?_
      have h1 := hu j oj hoj hdj
      by_cases hji : i = j
      · subst hji; rw [hset] at h1; cases h1
      · rw [getD_set_ne false hji] at h1; exact h1
    · by_cases hji : i = j
      · subst hji
        have e : oj = o := Option.some.inj (hoj.symm.trans ho)
        subst e
        have eu : u = t := Option.some.inj (hdj.symm.trans hd)
        subst eu
        rw [slot_put_same v (by rw [g.size]; exact hlt)]
        exact hv (by rw [hd]; exact fun h => by cases h)
      · rw [getD_set_ne false hji] at hl
        have hne' : t ≠ u := fun e => hji (huniq j oj hoj (by rw [e]; exact hdj))
        rw [slot_put_other v hne']
        exact turn j oj u hoj hdj (g.vals j oj u hoj hdj hl)
theorem GoingG.any {Q' : Exit → Act → World → Prop} (hslots : slotsG ops ms a0.tmps.size = true) (hdeps : depsB .any ops ops.size = true)
    (mono : ∀ d i w v w', S d i w v → Below w.heap.size w w' → S d i w' v) (monoC : ∀ d w w', C d w → Below w.heap.size w w' → C d w')
    (hstep : ∀ d i o a w, ms.contains i = false → ops[i]? = some o → (∀ s, ms.contains s = true → Region.waitsFor .any ops s i = true → d s = false) → (∀ s, ms.contains s = true → Region.waitsFor .any ops i s = true → d s = true) → C d w →
      (∀ t, (∀ (k : Nat) (ok : Oper), ops[k]? = some ok → ok.dst = some t → (k = i ∨ Region.waitsFor .any ops k i = true)) → slotOf a t = slotOf a0 t) →
      (∀ e ∈ o.after, Region.binds .any e = true → ∀ oj t, ops[e.on]? = some oj → oj.dst = some t → S d e.on w (slotOf a t)) →
      (Region.wanted o (yielded ops a.tmps) = true → stepUpon P w (S d i) ((execOp a.eval o).run P w)) ∧ (Region.wanted o (yielded ops a.tmps) = false → S d i w undef))
    (hmark : ∀ d i o a w, ms.contains i = true → ops[i]? = some o → d i = false → (∀ s, ms.contains s = true → Region.waitsFor .any ops s i = true → d s = false) → (∀ s, ms.contains s = true → Region.waitsFor .any ops i s = true → d s = true) → C d w →
      (∀ t, (∀ (k : Nat) (ok : Oper), ops[k]? = some ok → ok.dst = some t → (k = i ∨ Region.waitsFor .any ops k i = true)) → slotOf a t = slotOf a0 t) →
      (∀ e ∈ o.after, Region.binds .any e = true → ∀ oj t, ops[e.on]? = some oj → oj.dst = some t → S d e.on w (slotOf a t)) →
      Region.wanted o (yielded ops a.tmps) = true ∧ markUpon P w (fun w' v => C (doneAt d i) w' ∧ (o.dst ≠ none → S (doneAt d i) i w' v) ∧ ∀ j oj t, ops[j]? = some oj → oj.dst = some t → S d j w (slotOf a t) → S (doneAt d i) j w' (slotOf a t)) ((execOp a.eval o).run P w))
    (hend : ∀ (listed : Array Bool) a w, GoingG ops ms S C a0 listed a w → (∀ i, i < ops.size → listed.getD i false = true) → Q' .normal a w) :
    ∀ (f : Nat) (listed : Array Bool) (a : Act) (w : World), GoingG ops ms S C a0 listed a w → listed.toList.count false = f → wpAny P .any ops Q' f listed a w := by
  intro f
  induction f with
  | zero =>
    intro listed a w g hc
    have hall := all_of_count hc
    refine ⟨List.eq_nil_iff_forall_not_mem.2 fun j hj => ?_, hend listed a w g (fun i hi => hall i (by rw [g.lsize]; exact hi))⟩
    obtain ⟨h1, oj, hoj, -⟩ := mem_ready.1 hj
    have hin : j < listed.size := by rw [g.lsize]; exact in_ops hoj
    have h2 := hall j hin
    simp [hin] at h1 h2
    rw [h1] at h2; cases h2
  | succ f ih =>
    intro listed a w g hc
    refine ⟨fun hnil => ?_, fun j hj => ?_⟩
    · exfalso
      have hmem : false ∈ listed.toList := List.count_pos_iff.1 (by omega)
      obtain ⟨k, hk, hk2⟩ := List.mem_iff_getElem.1 hmem
      have hks : k < listed.size := by simpa using hk
      obtain ⟨i0, hi0, hu0, hmin⟩ := least_of (p := fun i => listed.getD i true = false) listed.size ⟨k, hks, by simp [hks]; simpa using hk2⟩
      have hi0' : i0 < ops.size := by rw [← g.lsize]; exact hi0
      obtain ⟨o0, ho0⟩ : ∃ o, ops[i0]? = some o := ⟨ops[i0], Array.getElem?_eq_getElem hi0'⟩
      have hr0 : i0 ∈ Region.ready .any ops listed := by
        refine mem_ready.2 ⟨hu0, o0, ho0, fun e he hb => ?_⟩
        have hlt := deps_spec hdeps hi0' ho0 e he hb
        have hl : listed.getD e.on true = true := by
          cases hx : listed.getD e.on true with
          | true => rfl
          | false => exact absurd hx (hmin _ hlt)
        have hin : e.on < listed.size := by omega
        simpa [hin] using hl
      rw [hnil] at hr0; cases hr0
    · obtain ⟨hjun, oj, hoj, hall'⟩ := mem_ready.1 hj
      have hjin : j < listed.size := by rw [g.lsize]; exact in_ops hoj
      have hj0 : listed.getD j false = false := by simp [hjin] at hjun ⊢; exact hjun
      have hdep : ∀ e ∈ oj.after, Region.binds .any e = true → ∀ ok u, ops[e.on]? = some ok → ok.dst = some u → S (doneOf ms listed) e.on w (slotOf a u) :=
        fun e he hb ok u hok hdk => g.vals e.on ok u hok hdk (hall' e he hb)
      have hwaits : ∀ s, Region.waitsFor .any ops s j = true → listed.getD s false = false := fun s hwt => by
        obtain ⟨os, hos, e, he, hbd, hon⟩ := Region.waitsFor_spec hwt
        cases hx : listed.getD s false with
        | false => rfl
        | true =>
          have h1 := g.closed s os hos hx e he hbd
          rw [hon] at h1
          rw [hj0] at h1; cases h1
      have hgot : ∀ s, Region.waitsFor .any ops j s = true → listed.getD s false = true := fun s hwt => by
        obtain ⟨os, hos, e, he, hbd, hon⟩ := Region.waitsFor_spec hwt
        have eo : os = oj := Option.some.inj (hos.symm.trans hoj)
        subst eo
        have := hall' e he hbd
        rw [hon] at this; exact this
      have hw1 : ∀ s, ms.contains s = true → Region.waitsFor .any ops s j = true → doneOf ms listed s = false := fun s hs hwt => by
        unfold doneOf; rw [hwaits s hwt, Bool.and_false]
      have hw2 : ∀ s, ms.contains s = true → Region.waitsFor .any ops j s = true → doneOf ms listed s = true := fun s hs hwt => by
        unfold doneOf; rw [hgot s hwt, hs]; rfl
      have hfr : ∀ t, (∀ (k : Nat) (ok : Oper), ops[k]? = some ok → ok.dst = some t → (k = j ∨ Region.waitsFor .any ops k j = true)) → slotOf a t = slotOf a0 t := fun t ht =>
        g.frame t fun k ok hok hdk => by
          rcases ht k ok hok hdk with e | e
          · subst e; exact hj0
          · exact hwaits k e
      by_cases hjm : ms.contains j = true
      · obtain ⟨hw, hm⟩ := hmark (doneOf ms listed) j oj a w hjm hoj (by unfold doneOf; rw [hj0, Bool.and_false]) hw1 hw2 g.bel hfr hdep
        unfold wpOp
        simp only [hoj, hw, if_true]
        refine .inl ?_
        unfold Oper.wp
        have em := done_mark (ms := ms) hjm hjin
        generalize (execOp a.eval oj).run P w = r at *
        cases r with
        | ok nx w' =>
          cases nx <;> simp only [markUpon] at hm
          case value v =>
            obtain ⟨h1, h2, h3⟩ := hm
            rw [← em] at h1 h2 h3
            exact ih _ _ _ (g.next hslots hall' hoj h1 h2 h3) (count_set hjun hc)
          case skip =>
            obtain ⟨h1, h2, h3⟩ := hm
            rw [← em] at h1 h2 h3
            have hnx := g.next hslots hall' hoj h1 h2 h3
            exact ih _ _ _ hnx (count_set hjun hc)
          case enter fn args =>
            obtain ⟨rfl, hcall⟩ := hm
            exact hcall.mono fun e w'' ⟨v, he, h1, h2, h3⟩ => by
              subst he
              rw [← em] at h1 h2 h3
              exact ih _ _ _ (g.next hslots hall' hoj h1 h2 h3) (count_set hjun hc)
        | halt x w' => simp only [markUpon] at hm
      · have hjm' : ms.contains j = false := by simpa using hjm
        obtain ⟨hs1, hs0⟩ := hstep (doneOf ms listed) j oj a w hjm' hoj hw1 hw2 g.bel hfr hdep
        have eo := done_other (ms := ms) (listed := listed) hjm'
        unfold wpOp
        cases hw : Region.wanted oj (yielded ops a.tmps) with
        | true =>
          have hs := hs1 hw
          simp only [hoj, hw, if_true]
          refine .inl ?_
          unfold Oper.wp
          generalize (execOp a.eval oj).run P w = r at *
          cases r with
          | ok nx w' =>
            cases nx <;> simp only [stepUpon] at hs
            case value v => exact ih _ _ _ (g.next hslots hall' hoj (by rw [eo]; exact monoC _ _ _ g.bel hs.1) (fun _ => by rw [eo]; exact hs.2) (fun k _ _ _ _ hk => by rw [eo]; exact mono _ _ _ _ _ hk hs.1)) (count_set hjun hc)
            case enter fn args =>
              obtain ⟨rfl, hcall⟩ := hs
              exact hcall.mono fun e w'' ⟨v, he, hb, hv⟩ => by
                subst he
                exact ih _ _ _ (g.next hslots hall' hoj (by rw [eo]; exact monoC _ _ _ g.bel hb) (fun _ => by rw [eo]; exact hv) (fun k _ _ _ _ hk => by rw [eo]; exact mono _ _ _ _ _ hk hb)) (count_set hjun hc)
          | halt x w' => simp only [stepUpon] at hs
        | false =>
          have hs := hs0 hw
          simp only [hoj, hw, Bool.false_eq_true, if_false]
          exact ih _ _ _ (g.next hslots hall' hoj (by rw [eo]; exact g.bel) (fun _ => by rw [eo]; exact hs) (fun k _ _ _ _ hk => by rw [eo]; exact hk)) (count_set hjun hc)
theorem puts_factsG (V : Nat → Value) {l : List Oper} {a : Act} (hslots : slotsG l.toArray ms a.tmps.size = true) :
    ∀ m, m ≤ l.length → (puts V (l.take m) 0 a).tmps.size = a.tmps.size ∧ (puts V (l.take m) 0 a).defers = a.defers ∧
      (∀ (i : Nat) (o : Oper) t, i < m → l.toArray[i]? = some o → o.dst = some t → slotOf (puts V (l.take m) 0 a) t = V i) ∧
      (∀ t, (∀ (i : Nat) (o : Oper), i < m → l.toArray[i]? = some o → o.dst ≠ some t) → slotOf (puts V (l.take m) 0 a) t = slotOf a t) := by
  intro m
  induction m with
  | zero => intro _; exact ⟨rfl, rfl, fun i o t hi => absurd hi (Nat.not_lt_zero _), fun t _ => rfl⟩
  | succ m ih =>
    intro hm
    obtain ⟨h1, h2, h3, h4⟩ := ih (by omega)
    have hml : m < l.length := by omega
    have hom : l.toArray[m]? = some l[m] := by simp [hml]
    have e : l.take (m + 1) = l.take m ++ [l[m]] := by rw [List.take_add_one, List.getElem?_eq_getElem hml]; rfl
    have e2 : puts V (l.take (m + 1)) 0 a = (puts V (l.take m) 0 a).put l[m].dst (V m) := by
      rw [e, puts_snoc, List.length_take, Nat.min_eq_left (by omega), Nat.zero_add]
    rw [e2]
    rcases slotsG_spec hslots hom with ⟨-, hd⟩ | ⟨t, hd, hlt, huniq⟩
    · rw [hd]
      refine ⟨h1, h2, fun i o u hi ho hdo => ?_, fun u hu => h4 u (fun i o hi ho => hu i o (by omega) ho)⟩
      by_cases him : i = m
      · subst him
        have eo : o = l[i] := Option.some.inj (ho.symm.trans hom)
        subst eo
        rw [hd] at hdo; cases hdo
      · exact h3 i o u (by omega) ho hdo
    · rw [hd]
      refine ⟨by simpa [Act.put] using h1, h2, fun i o u hi ho hdo => ?_, fun u hu => ?_⟩
      · by_cases him : i = m
        · subst him
          have eo : o = l[i] := Option.some.inj (ho.symm.trans hom)
          subst eo
          have eu : u = t := Option.some.inj (hdo.symm.trans hd)
          subst eu
          exact slot_put_same _ (by rw [h1]; exact hlt)
        · have hne : t ≠ u := fun eu => him (huniq i o ho (by rw [eu]; exact hdo)).symm
          rw [slot_put_other _ hne]
          exact h3 i o u (by omega) ho hdo
      · have hne : t ≠ u := fun eu => hu m l[m] (by omega) hom (by rw [hd, eu])
        rw [slot_put_other _ hne]
        exact h4 u (fun i o hi ho => hu i o (by omega) ho)
/-- All marks. -/
def allOf (ms : List Nat) : Nat → Bool := fun s => ms.contains s
theorem wants_eq {a : Act} {o : Oper} : Region.wanted o (yielded ops a.tmps) = wantsB ops a.eval o := by
  unfold Region.wanted wantsB
  cases o.guard with
  | none => rfl
  | some p =>
    obtain ⟨g, b⟩ := p
    simp only [yielded]
    cases hg : (ops[g]?).bind (·.dst) with
    | none => simp
    | some t =>
      have e : a.eval (.tmp t) = (a.tmps[t]?).getD undef := by show slotOf a t = _; unfold slotOf; simp
      simp only [Option.bind_some, e]
      cases ht : a.tmps[t]? with
      | none => simp [undef]
      | some v => cases v <;> simp
/-- THE LAW, in the form in which it is used. -/
theorem wp_region_gen {id : Nat} {Q : Exit → Act → World → Prop} {a : Act} {w : World} {l : List Oper} (ms : List Nat) (S : (Nat → Bool) → Nat → World → Value → Prop) (C : (Nat → Bool) → World → Prop) (hm : P.follows .mixedOrders = true)
    (hB : depsB .any l.toArray l.toArray.size = true) (hslots : slotsG l.toArray ms a.tmps.size = true)
    (mono : ∀ d i w v w', S d i w v → Below w.heap.size w w' → S d i w' v) (monoC : ∀ d w w', C d w → Below w.heap.size w w' → C d w') (hC : C (fun _ => false) w)
    (hstep : ∀ d i o (ρ : Operand → Value) w', ms.contains i = false → l.toArray[i]? = some o → (∀ s, ms.contains s = true → Region.waitsFor .any l.toArray s i = true → d s = false) → (∀ s, ms.contains s = true → Region.waitsFor .any l.toArray i s = true → d s = true) → C d w' → (∀ v, ρ (.const v) = v) → (∀ f, ρ (.func f) = .func (.func f) #[] #[]) →
      (∀ t, freeAt l.toArray i t = true → ρ (.tmp t) = slotOf a t) → (∀ j t, Region.waitsFor .any l.toArray i j = true → (l.toArray[j]?).bind (·.dst) = some t → S d j w' (ρ (.tmp t))) →
      (wantsB l.toArray ρ o = true → stepUpon P w' (S d i) ((execOp ρ o).run P w')) ∧ (wantsB l.toArray ρ o = false → S d i w' undef))
    (hmark : ∀ d i o (ρ : Operand → Value) w', ms.contains i = true → l.toArray[i]? = some o → d i = false → (∀ s, ms.contains s = true → Region.waitsFor .any l.toArray s i = true → d s = false) → (∀ s, ms.contains s = true → Region.waitsFor .any l.toArray i s = true → d s = true) → C d w' → (∀ v, ρ (.const v) = v) → (∀ f, ρ (.func f) = .func (.func f) #[] #[]) →
      (∀ t, freeAt l.toArray i t = true → ρ (.tmp t) = slotOf a t) → (∀ j t, Region.waitsFor .any l.toArray i j = true → (l.toArray[j]?).bind (·.dst) = some t → S d j w' (ρ (.tmp t))) →
      wantsB l.toArray ρ o = true ∧ markUpon P w' (fun w'' v => C (doneAt d i) w'' ∧ (o.dst ≠ none → S (doneAt d i) i w'' v) ∧ ∀ j t, (l.toArray[j]?).bind (·.dst) = some t → S d j w' (ρ (.tmp t)) → S (doneAt d i) j w'' (ρ (.tmp t))) ((execOp ρ o).run P w'))
    (hend : ∀ (V : Nat → Value) w', C (allOf ms) w' → (∀ i, i < l.length → (l.toArray[i]?).bind (·.dst) ≠ none → S (allOf ms) i w' (V i)) → Q .normal (puts V l 0 a) w') (hmsz : ms.all (· < l.length) = true) : (Code.region id l.toArray true).wp P Q a w := by
  have hdeps : ∀ (i : Nat) (o : Oper) (d : Nat → Bool) (a' : Act) (w' : World), l.toArray[i]? = some o →
      (∀ e ∈ o.after, Region.binds .any e = true → ∀ oj t, l.toArray[e.on]? = some oj → oj.dst = some t → S d e.on w' (slotOf a' t)) →
      ∀ j t, Region.waitsFor .any l.toArray i j = true → (l.toArray[j]?).bind (·.dst) = some t → S d j w' (a'.eval (.tmp t)) := fun i o d a' w' ho hdep j t hw hj => by
    obtain ⟨oi, hoi, e, he, hbd, hon⟩ := Region.waitsFor_spec hw
    have eo : oi = o := Option.some.inj (hoi.symm.trans ho)
    subst eo
    subst hon
    cases hoj : l.toArray[e.on]? with
    | none => rw [hoj] at hj; simp at hj
    | some oj =>
      rw [hoj] at hj
      exact hdep e he hbd oj t hoj (by simpa using hj)
  have hfree : ∀ (i : Nat) (a' : Act), (∀ t, (∀ (k : Nat) (ok : Oper), l.toArray[k]? = some ok → ok.dst = some t → (k = i ∨ Region.waitsFor .any l.toArray k i = true)) → slotOf a' t = slotOf a t) → ∀ t, freeAt l.toArray i t = true → a'.eval (.tmp t) = slotOf a t := fun i a' hfr t ht =>
    hfr t fun k ok hok hdk => by
      have h1 := List.all_eq_true.1 ht k (List.mem_range.2 (in_ops hok))
      simp only [hok, Option.bind_some, hdk, ne_eq, not_true_eq_false, decide_false, Bool.false_or, Bool.or_eq_true, decide_eq_true_eq] at h1
      exact h1
  refine wp_region_any hm ?_
  have z0 : doneOf ms (Array.replicate l.toArray.size false) = fun _ => false := by
    funext s; unfold doneOf; rw [getD_replicate_false, Bool.and_false]
  have hdrew : C (fun _ => false) { w with drawn := w.drawn + 1 } := monoC _ _ _ hC (Below.refl _ _).drew
  refine GoingG.any (a0 := a) (S := S) (C := C) (ms := ms) hslots hB mono monoC ?_ ?_ ?_ l.toArray.size _ a _ ⟨by simp, ?_, by rw [z0]; exact hdrew, rfl, rfl, fun _ _ => rfl, ?_⟩ (by simp)
  · intro d i o a' w' hi ho h1 h2 hb hfr hdep
    rw [wants_eq]
    exact hstep d i o a'.eval w' hi ho h1 h2 hb (fun _ => rfl) (fun _ => rfl) (hfree i a' hfr) (hdeps i o d a' w' ho hdep)
  · intro d i o a' w' hi ho h0 h1 h2 hb hfr hdep
    rw [wants_eq]
    obtain ⟨k1, k2⟩ := hmark d i o a'.eval w' hi ho h0 h1 h2 hb (fun _ => rfl) (fun _ => rfl) (hfree i a' hfr) (hdeps i o d a' w' ho hdep)
    refine ⟨k1, markUpon_mono k2 fun u v ⟨m1, m2, m3⟩ => ⟨m1, m2, fun j oj t hoj hdj hs => m3 j t (by rw [hoj]; exact hdj) hs⟩⟩
  · intro listed a' w' g hall
    have ed : doneOf ms listed = allOf ms := by
      funext s
      unfold doneOf allOf
      by_cases hs : ms.contains s = true
      · rw [hs, hall s (by simpa using List.all_eq_true.1 hmsz s (by simpa using hs))]; rfl
      · have : ms.contains s = false := by simpa using hs
        rw [this]; rfl
    have key : a' = puts (fun i => match (l.toArray[i]?).bind (·.dst) with | some t => slotOf a' t | none => undef) l 0 a := by
      obtain ⟨h1, h2, h3, h4⟩ := puts_factsG (fun i => match (l.toArray[i]?).bind (·.dst) with | some t => slotOf a' t | none => undef) hslots l.length (Nat.le_refl _)
      rw [List.take_length] at h1 h2 h3 h4
      refine act_eq (g.size.trans h1.symm) (g.defers.trans h2.symm) fun t _ => ?_
      by_cases hx : ∃ (i : Nat) (o : Oper), l.toArray[i]? = some o ∧ o.dst = some t
      · obtain ⟨i, o, ho, hd⟩ := hx
        rw [h3 i o t (by simpa using in_ops ho) ho hd]
        simp only [ho, Option.bind_some, hd]
      · have hx' : ∀ (i : Nat) (o : Oper), l.toArray[i]? = some o → o.dst ≠ some t := fun i o ho hd => hx ⟨i, o, ho, hd⟩
        rw [h4 t (fun i o _ ho => hx' i o ho), g.frame t (fun i o ho hd => absurd hd (hx' i o ho))]
    rw [key]
    have hbel := g.bel
    rw [ed] at hbel
    refine hend _ w' hbel fun i hi hne => ?_
    have hio : l.toArray[i]? = some l[i] := by simp [hi]
    rcases slotsG_spec hslots hio with ⟨-, hd⟩ | ⟨t, hd, -, -⟩
    · rw [hio] at hne
      simp [hd] at hne
    simp only [hio, Option.bind_some, hd]
    have := g.vals i l[i] t hio hd (hall i (by simpa using hi))
    rw [ed] at this
    exact this
  · intro i o ho hl
    rw [getD_replicate_false] at hl
    cases hl
  · intro i o t ho hd hl
    rw [getD_replicate_false] at hl
    cases hl
end
section
variable {P : Program} {γ : Type} {ops : Array Oper} {S : γ → (Nat → Bool) → Nat → World → Value → Prop} {C : γ → (Nat → Bool) → World → Prop} {a0 : Act} {ms : List Nat}
/-- What holds at every moment of the region. -/
structure GoingH (ops : Array Oper) (ms : List Nat) (S : γ → (Nat → Bool) → Nat → World → Value → Prop) (C : γ → (Nat → Bool) → World → Prop) (a0 : Act) (h : γ) (listed : Array Bool) (a : Act) (w : World) : Prop where
  lsize : listed.size = ops.size
  closed : ∀ i o, ops[i]? = some o → listed.getD i false = true → ∀ e ∈ o.after, Region.binds .any e = true → listed.getD e.on false = true
  bel : C h (doneOf ms listed) w
  defers : a.defers = a0.defers
  size : a.tmps.size = a0.tmps.size
  frame : ∀ t, (∀ (i : Nat) (o : Oper), ops[i]? = some o → o.dst = some t → listed.getD i false = false) → slotOf a t = slotOf a0 t
  vals : ∀ i o t, ops[i]? = some o → o.dst = some t → listed.getD i false = true → S h (doneOf ms listed) i w (slotOf a t)
/-- One operation more: its value in its slot, if it has one; what the sentences have become. -/
theorem GoingH.next {h h' : γ} {listed : Array Bool} {a : Act} {w w' : World} {i : Nat} {o : Oper} {v : Value} (g : GoingH ops ms S C a0 h listed a w) (hslots : slotsG ops ms a0.tmps.size = true)
    (hall : ∀ e ∈ o.after, Region.binds .any e = true → listed.getD e.on false = true) (ho : ops[i]? = some o)
    (hC : C h' (doneOf ms (listed.setIfInBounds i true)) w') (hv : o.dst ≠ none → S h' (doneOf ms (listed.setIfInBounds i true)) i w' v)
    (turn : ∀ j oj t, ops[j]? = some oj → oj.dst = some t → S h (doneOf ms listed) j w (slotOf a t) → S h' (doneOf ms (listed.setIfInBounds i true)) j w' (slotOf a t)) :
    GoingH ops ms S C a0 h' (listed.setIfInBounds i true) (a.put o.dst v) w' := by
  have hin : i < listed.size := by rw [g.lsize]; exact in_ops ho
  have hset : (listed.setIfInBounds i true).getD i false = true := by simp [hin]
  rcases slotsG_spec hslots ho with ⟨-, hd⟩ | ⟨t, hd, hlt, huniq⟩
  · rw [hd]
    refine ⟨by simpa using g.lsize, closed_next ho g.closed hall, hC, g.defers, g.size, fun t ht => ?_, fun j oj u hoj hdj hl => ?_⟩
    · refine g.frame t fun j oj hoj hdj => ?_
      have h1 := ht j oj hoj hdj
      by_cases hji : i = j
      · subst hji; rw [hset] at h1; cases h1
      · rw [getD_set_ne false hji] at h1; exact h1
    · by_cases hji : i = j
      · subst hji
        have e : oj = o := Option.some.inj (hoj.symm.trans ho)
        subst e
        rw [hd] at hdj; cases hdj
      · rw [getD_set_ne false hji] at hl
        exact turn j oj u hoj hdj (g.vals j oj u hoj hdj hl)
  · rw [hd]
    refine ⟨by simpa using g.lsize, closed_next ho g.closed hall, hC, g.defers, by simpa [Act.put] using g.size, fun u hu => ?_, fun j oj u hoj hdj hl => ?_⟩
    · have hne : t ≠ u := fun e => by
        subst e
        have h1 := hu i o ho hd
        rw [hset] at h1; cases h1
      rw [slot_put_other v hne]
      refine g.frame u fun j oj hoj hdj => ?_
      have h1 := hu j oj hoj hdj
      by_cases hji : i = j
      · subst hji; rw [hset] at h1; cases h1
      · rw [getD_set_ne false hji] at h1; exact h1
    · by_cases hji : i = j
      · subst hji
        have e : oj = o := Option.some.inj (hoj.symm.trans ho)
        subst e
        have eu : u = t := Option.some.inj (hdj.symm.trans hd)
        subst eu
        rw [slot_put_same v (by rw [g.size]; exact hlt)]
        exact hv (by rw [hd]; exact fun h => by cases h)
      · rw [getD_set_ne false hji] at hl
        have hne' : t ≠ u := fun e => hji (huniq j oj hoj (by rw [e]; exact hdj))
        rw [slot_put_other v hne']
        exact turn j oj u hoj hdj (g.vals j oj u hoj hdj hl)
theorem GoingH.any {Q' : Exit → Act → World → Prop} (hslots : slotsG ops ms a0.tmps.size = true) (hdeps : depsB .any ops ops.size = true)
    (mono : ∀ h d i w v w', S h d i w v → Below w.heap.size w w' → S h d i w' v) (monoC : ∀ h d w w', C h d w → Below w.heap.size w w' → C h d w')
    (hstep : ∀ h d i o a w, ms.contains i = false → ops[i]? = some o → (∀ s, ms.contains s = true → Region.waitsFor .any ops s i = true → d s = false) → (∀ s, ms.contains s = true → Region.waitsFor .any ops i s = true → d s = true) → C h d w →
      (∀ t, (∀ (k : Nat) (ok : Oper), ops[k]? = some ok → ok.dst = some t → (k = i ∨ Region.waitsFor .any ops k i = true)) → slotOf a t = slotOf a0 t) →
      (∀ e ∈ o.after, Region.binds .any e = true → ∀ oj t, ops[e.on]? = some oj → oj.dst = some t → S h d e.on w (slotOf a t)) →
      (Region.wanted o (yielded ops a.tmps) = true → stepUpon P w (S h d i) ((execOp a.eval o).run P w)) ∧ (Region.wanted o (yielded ops a.tmps) = false → S h d i w undef))
    (hmark : ∀ h d i o a w, ms.contains i = true → ops[i]? = some o → d i = false → (∀ s, ms.contains s = true → Region.waitsFor .any ops s i = true → d s = false) → (∀ s, ms.contains s = true → Region.waitsFor .any ops i s = true → d s = true) → C h d w →
      (∀ t, (∀ (k : Nat) (ok : Oper), ops[k]? = some ok → ok.dst = some t → (k = i ∨ Region.waitsFor .any ops k i = true)) → slotOf a t = slotOf a0 t) →
      (∀ e ∈ o.after, Region.binds .any e = true → ∀ oj t, ops[e.on]? = some oj → oj.dst = some t → S h d e.on w (slotOf a t)) →
      Region.wanted o (yielded ops a.tmps) = true ∧ markUpon P w (fun w' v => ∃ h', C h' (doneAt d i) w' ∧ (o.dst ≠ none → S h' (doneAt d i) i w' v) ∧ ∀ j oj t, ops[j]? = some oj → oj.dst = some t → S h d j w (slotOf a t) → S h' (doneAt d i) j w' (slotOf a t)) ((execOp a.eval o).run P w))
    (hend : ∀ h (listed : Array Bool) a w, GoingH ops ms S C a0 h listed a w → (∀ i, i < ops.size → listed.getD i false = true) → Q' .normal a w) :
    ∀ (f : Nat) (h : γ) (listed : Array Bool) (a : Act) (w : World), GoingH ops ms S C a0 h listed a w → listed.toList.count false = f → wpAny P .any ops Q' f listed a w := by
  intro f
  induction f with
  | zero =>
    intro h listed a w g hc
    have hall := all_of_count hc
    refine ⟨List.eq_nil_iff_forall_not_mem.2 fun j hj => ?_, hend h listed a w g (fun i hi => hall i (by rw [g.lsize]; exact hi))⟩
    obtain ⟨h1, oj, hoj, -⟩ := mem_ready.1 hj
    have hin : j < listed.size := by rw [g.lsize]; exact in_ops hoj
    have h2 := hall j hin
    simp [hin] at h1 h2
    rw [h1] at h2; cases h2
  | succ f ih =>
    intro h listed a w g hc
    refine ⟨fun hnil => ?_, fun j hj => ?_⟩
    · exfalso
      have hmem : false ∈ listed.toList := List.count_pos_iff.1 (by omega)
      obtain ⟨k, hk, hk2⟩ := List.mem_iff_getElem.1 hmem
      have hks : k < listed.size := by simpa using hk
      obtain ⟨i0, hi0, hu0, hmin⟩ := least_of (p := fun i => listed.getD i true = false) listed.size ⟨k, hks, by simp [hks]; simpa using hk2⟩
      have hi0' : i0 < ops.size := by rw [← g.lsize]; exact hi0
      obtain ⟨o0, ho0⟩ : ∃ o, ops[i0]? = some o := ⟨ops[i0], Array.getElem?_eq_getElem hi0'⟩
      have hr0 : i0 ∈ Region.ready .any ops listed := by
        refine mem_ready.2 ⟨hu0, o0, ho0, fun e he hb => ?_⟩
        have hlt := deps_spec hdeps hi0' ho0 e he hb
        have hl : listed.getD e.on true = true := by
          cases hx : listed.getD e.on true with
          | true => rfl
          | false => exact absurd hx (hmin _ hlt)
        have hin : e.on < listed.size := by omega
        simpa [hin] using hl
      rw [hnil] at hr0; cases hr0
    · obtain ⟨hjun, oj, hoj, hall'⟩ := mem_ready.1 hj
      have hjin : j < listed.size := by rw [g.lsize]; exact in_ops hoj
      have hj0 : listed.getD j false = false := by simp [hjin] at hjun ⊢; exact hjun
      have hdep : ∀ e ∈ oj.after, Region.binds .any e = true → ∀ ok u, ops[e.on]? = some ok → ok.dst = some u → S h (doneOf ms listed) e.on w (slotOf a u) :=
        fun e he hb ok u hok hdk => g.vals e.on ok u hok hdk (hall' e he hb)
      have hwaits : ∀ s, Region.waitsFor .any ops s j = true → listed.getD s false = false := fun s hwt => by
        obtain ⟨os, hos, e, he, hbd, hon⟩ := Region.waitsFor_spec hwt
        cases hx : listed.getD s false with
        | false => rfl
        | true =>
          have h1 := g.closed s os hos hx e he hbd
          rw [hon] at h1
          rw [hj0] at h1; cases h1
      have hgot : ∀ s, Region.waitsFor .any ops j s = true → listed.getD s false = true := fun s hwt => by
        obtain ⟨os, hos, e, he, hbd, hon⟩ := Region.waitsFor_spec hwt
        have eo : os = oj := Option.some.inj (hos.symm.trans hoj)
        subst eo
        have := hall' e he hbd
        rw [hon] at this; exact this
      have hw1 : ∀ s, ms.contains s = true → Region.waitsFor .any ops s j = true → doneOf ms listed s = false := fun s hs hwt => by
        unfold doneOf; rw [hwaits s hwt, Bool.and_false]
      have hw2 : ∀ s, ms.contains s = true → Region.waitsFor .any ops j s = true → doneOf ms listed s = true := fun s hs hwt => by
        unfold doneOf; rw [hgot s hwt, hs]; rfl
      have hfr : ∀ t, (∀ (k : Nat) (ok : Oper), ops[k]? = some ok → ok.dst = some t → (k = j ∨ Region.waitsFor .any ops k j = true)) → slotOf a t = slotOf a0 t := fun t ht =>
        g.frame t fun k ok hok hdk => by
          rcases ht k ok hok hdk with e | e
          · subst e; exact hj0
          · exact hwaits k e
      by_cases hjm : ms.contains j = true
      · obtain ⟨hw, hm⟩ := hmark h (doneOf ms listed) j oj a w hjm hoj (by unfold doneOf; rw [hj0, Bool.and_false]) hw1 hw2 g.bel hfr hdep
        unfold wpOp
        simp only [hoj, hw, if_true]
        refine .inl ?_
        unfold Oper.wp
        have em := done_mark (ms := ms) hjm hjin
        generalize (execOp a.eval oj).run P w = r at *
        cases r with
        | ok nx w' =>
          cases nx <;> simp only [markUpon] at hm
          case value v =>
            obtain ⟨h', h1, h2, h3⟩ := hm
            rw [← em] at h1 h2 h3
            exact ih _ _ _ _ (g.next hslots hall' hoj h1 h2 h3) (count_set hjun hc)
          case skip =>
            obtain ⟨h', h1, h2, h3⟩ := hm
            rw [← em] at h1 h2 h3
            have hnx := g.next hslots hall' hoj h1 h2 h3
            exact ih _ _ _ _ hnx (count_set hjun hc)
          case enter fn args =>
            obtain ⟨rfl, hcall⟩ := hm
            exact hcall.mono fun e w'' ⟨v, he, h', h1, h2, h3⟩ => by
              subst he
              rw [← em] at h1 h2 h3
              exact ih _ _ _ _ (g.next hslots hall' hoj h1 h2 h3) (count_set hjun hc)
        | halt x w' => simp only [markUpon] at hm
      · have hjm' : ms.contains j = false := by simpa using hjm
        obtain ⟨hs1, hs0⟩ := hstep h (doneOf ms listed) j oj a w hjm' hoj hw1 hw2 g.bel hfr hdep
        have eo := done_other (ms := ms) (listed := listed) hjm'
        unfold wpOp
        cases hw : Region.wanted oj (yielded ops a.tmps) with
        | true =>
          have hs := hs1 hw
          simp only [hoj, hw, if_true]
          refine .inl ?_
          unfold Oper.wp
          generalize (execOp a.eval oj).run P w = r at *
          cases r with
          | ok nx w' =>
            cases nx <;> simp only [stepUpon] at hs
            case value v => exact ih _ _ _ _ (g.next (h' := h) hslots hall' hoj (by rw [eo]; exact monoC _ _ _ _ g.bel hs.1) (fun _ => by rw [eo]; exact hs.2) (fun k _ _ _ _ hk => by rw [eo]; exact mono _ _ _ _ _ _ hk hs.1)) (count_set hjun hc)
            case enter fn args =>
              obtain ⟨rfl, hcall⟩ := hs
              exact hcall.mono fun e w'' ⟨v, he, hb, hv⟩ => by
                subst he
                exact ih _ _ _ _ (g.next (h' := h) hslots hall' hoj (by rw [eo]; exact monoC _ _ _ _ g.bel hb) (fun _ => by rw [eo]; exact hv) (fun k _ _ _ _ hk => by rw [eo]; exact mono _ _ _ _ _ _ hk hb)) (count_set hjun hc)
          | halt x w' => simp only [stepUpon] at hs
        | false =>
          have hs := hs0 hw
          simp only [hoj, hw, Bool.false_eq_true, if_false]
          exact ih _ _ _ _ (g.next (h' := h) hslots hall' hoj (by rw [eo]; exact g.bel) (fun _ => by rw [eo]; exact hs) (fun k _ _ _ _ hk => by rw [eo]; exact hk)) (count_set hjun hc)
/-- THE LAW, in the form in which it is used. -/
theorem wp_region_gho {id : Nat} {Q : Exit → Act → World → Prop} {a : Act} {w : World} {l : List Oper} (ms : List Nat) (S : γ → (Nat → Bool) → Nat → World → Value → Prop) (C : γ → (Nat → Bool) → World → Prop) (h0 : γ) (hm : P.follows .mixedOrders = true)
    (hB : depsB .any l.toArray l.toArray.size = true) (hslots : slotsG l.toArray ms a.tmps.size = true)
    (mono : ∀ h d i w v w', S h d i w v → Below w.heap.size w w' → S h d i w' v) (monoC : ∀ h d w w', C h d w → Below w.heap.size w w' → C h d w') (hC : C h0 (fun _ => false) w)
    (hstep : ∀ h d i o (ρ : Operand → Value) w', ms.contains i = false → l.toArray[i]? = some o → (∀ s, ms.contains s = true → Region.waitsFor .any l.toArray s i = true → d s = false) → (∀ s, ms.contains s = true → Region.waitsFor .any l.toArray i s = true → d s = true) → C h d w' → (∀ v, ρ (.const v) = v) → (∀ f, ρ (.func f) = .func (.func f) #[] #[]) →
      (∀ t, freeAt l.toArray i t = true → ρ (.tmp t) = slotOf a t) → (∀ j t, Region.waitsFor .any l.toArray i j = true → (l.toArray[j]?).bind (·.dst) = some t → S h d j w' (ρ (.tmp t))) →
      (wantsB l.toArray ρ o = true → stepUpon P w' (S h d i) ((execOp ρ o).run P w')) ∧ (wantsB l.toArray ρ o = false → S h d i w' undef))
    (hmark : ∀ h d i o (ρ : Operand → Value) w', ms.contains i = true → l.toArray[i]? = some o → d i = false → (∀ s, ms.contains s = true → Region.waitsFor .any l.toArray s i = true → d s = false) → (∀ s, ms.contains s = true → Region.waitsFor .any l.toArray i s = true → d s = true) → C h d w' → (∀ v, ρ (.const v) = v) → (∀ f, ρ (.func f) = .func (.func f) #[] #[]) →
      (∀ t, freeAt l.toArray i t = true → ρ (.tmp t) = slotOf a t) → (∀ j t, Region.waitsFor .any l.toArray i j = true → (l.toArray[j]?).bind (·.dst) = some t → S h d j w' (ρ (.tmp t))) →
      wantsB l.toArray ρ o = true ∧ markUpon P w' (fun w'' v => ∃ h', C h' (doneAt d i) w'' ∧ (o.dst ≠ none → S h' (doneAt d i) i w'' v) ∧ ∀ j t, (l.toArray[j]?).bind (·.dst) = some t → S h d j w' (ρ (.tmp t)) → S h' (doneAt d i) j w'' (ρ (.tmp t))) ((execOp ρ o).run P w'))
    (hend : ∀ h (V : Nat → Value) w', C h (allOf ms) w' → (∀ i, i < l.length → (l.toArray[i]?).bind (·.dst) ≠ none → S h (allOf ms) i w' (V i)) → Q .normal (puts V l 0 a) w') (hmsz : ms.all (· < l.length) = true) : (Code.region id l.toArray true).wp P Q a w := by
  have hdeps : ∀ (h : γ) (i : Nat) (o : Oper) (d : Nat → Bool) (a' : Act) (w' : World), l.toArray[i]? = some o →
      (∀ e ∈ o.after, Region.binds .any e = true → ∀ oj t, l.toArray[e.on]? = some oj → oj.dst = some t → S h d e.on w' (slotOf a' t)) →
      ∀ j t, Region.waitsFor .any l.toArray i j = true → (l.toArray[j]?).bind (·.dst) = some t → S h d j w' (a'.eval (.tmp t)) := fun h i o d a' w' ho hdep j t hw hj => by
    obtain ⟨oi, hoi, e, he, hbd, hon⟩ := Region.waitsFor_spec hw
    have eo : oi = o := Option.some.inj (hoi.symm.trans ho)
    subst eo
    subst hon
    cases hoj : l.toArray[e.on]? with
    | none => rw [hoj] at hj; simp at hj
    | some oj =>
      rw [hoj] at hj
      exact hdep e he hbd oj t hoj (by simpa using hj)
  have hfree : ∀ (i : Nat) (a' : Act), (∀ t, (∀ (k : Nat) (ok : Oper), l.toArray[k]? = some ok → ok.dst = some t → (k = i ∨ Region.waitsFor .any l.toArray k i = true)) → slotOf a' t = slotOf a t) → ∀ t, freeAt l.toArray i t = true → a'.eval (.tmp t) = slotOf a t := fun i a' hfr t ht =>
    hfr t fun k ok hok hdk => by
      have h1 := List.all_eq_true.1 ht k (List.mem_range.2 (in_ops hok))
      simp only [hok, Option.bind_some, hdk, ne_eq, not_true_eq_false, decide_false, Bool.false_or, Bool.or_eq_true, decide_eq_true_eq] at h1
      exact h1
  refine wp_region_any hm ?_
  have z0 : doneOf ms (Array.replicate l.toArray.size false) = fun _ => false := by
    funext s; unfold doneOf; rw [getD_replicate_false, Bool.and_false]
  have hdrew : C h0 (fun _ => false) { w with drawn := w.drawn + 1 } := monoC _ _ _ _ hC (Below.refl _ _).drew
  refine GoingH.any (a0 := a) (S := S) (C := C) (ms := ms) hslots hB mono monoC ?_ ?_ ?_ l.toArray.size h0 _ a _ ⟨by simp, ?_, by rw [z0]; exact hdrew, rfl, rfl, fun _ _ => rfl, ?_⟩ (by simp)
  · intro h d i o a' w' hi ho h1 h2 hb hfr hdep
    rw [wants_eq]
    exact hstep h d i o a'.eval w' hi ho h1 h2 hb (fun _ => rfl) (fun _ => rfl) (hfree i a' hfr) (hdeps h i o d a' w' ho hdep)
  · intro h d i o a' w' hi ho h0 h1 h2 hb hfr hdep
    rw [wants_eq]
    obtain ⟨k1, k2⟩ := hmark h d i o a'.eval w' hi ho h0 h1 h2 hb (fun _ => rfl) (fun _ => rfl) (hfree i a' hfr) (hdeps h i o d a' w' ho hdep)
    refine ⟨k1, markUpon_mono k2 fun u v ⟨h', m1, m2, m3⟩ => ⟨h', m1, m2, fun j oj t hoj hdj hs => m3 j t (by rw [hoj]; exact hdj) hs⟩⟩
  · intro h listed a' w' g hall
    have ed : doneOf ms listed = allOf ms := by
      funext s
      unfold doneOf allOf
      by_cases hs : ms.contains s = true
      · rw [hs, hall s (by simpa using List.all_eq_true.1 hmsz s (by simpa using hs))]; rfl
      · have : ms.contains s = false := by simpa using hs
        rw [this]; rfl
    have key : a' = puts (fun i => match (l.toArray[i]?).bind (·.dst) with | some t => slotOf a' t | none => undef) l 0 a := by
      obtain ⟨h1, h2, h3, h4⟩ := puts_factsG (fun i => match (l.toArray[i]?).bind (·.dst) with | some t => slotOf a' t | none => undef) hslots l.length (Nat.le_refl _)
      rw [List.take_length] at h1 h2 h3 h4
      refine act_eq (g.size.trans h1.symm) (g.defers.trans h2.symm) fun t _ => ?_
      by_cases hx : ∃ (i : Nat) (o : Oper), l.toArray[i]? = some o ∧ o.dst = some t
      · obtain ⟨i, o, ho, hd⟩ := hx
        rw [h3 i o t (by simpa using in_ops ho) ho hd]
        simp only [ho, Option.bind_some, hd]
      · have hx' : ∀ (i : Nat) (o : Oper), l.toArray[i]? = some o → o.dst ≠ some t := fun i o ho hd => hx ⟨i, o, ho, hd⟩
        rw [h4 t (fun i o _ ho => hx' i o ho), g.frame t (fun i o ho hd => absurd hd (hx' i o ho))]
    rw [key]
    have hbel := g.bel
    rw [ed] at hbel
    refine hend h _ w' hbel fun i hi hne => ?_
    have hio : l.toArray[i]? = some l[i] := by simp [hi]
    rcases slotsG_spec hslots hio with ⟨-, hd⟩ | ⟨t, hd, -, -⟩
    · rw [hio] at hne
      simp [hd] at hne
    simp only [hio, Option.bind_some, hd]
    have := g.vals i l[i] t hio hd (hall i (by simpa using hi))
    rw [ed] at this
    exact this
  · intro i o ho hl
    rw [getD_replicate_false] at hl
    cases hl
  · intro i o t ho hd hl
    rw [getD_replicate_false] at hl
    cases hl
end
end Go.Proofs.YtimioiaoefhabaaGreat

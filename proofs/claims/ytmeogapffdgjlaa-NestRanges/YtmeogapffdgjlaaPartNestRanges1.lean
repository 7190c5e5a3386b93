/- Texts of one chain, laid one behind the other. -/
import Derived.RowKit
namespace Go.Proofs.Ytmeogapffdgjlaa
open Go.RowKit
/-! ### Rows of numbers -/
def nth (zs : List Int) (k : Nat) : Int := zs.getD k 0
def InR (zs : List Int) : Prop := ∀ k, -9223372036854775808 ≤ nth zs k ∧ nth zs k ≤ 9223372036854775807
end Go.Proofs.Ytmeogapffdgjlaa
namespace Go.Proofs.Ytmeogapffdgjlaa
structure Lp where
  times : Int
  node : Int
  body : List Lp
theorem nest_two {P : List Lp → Prop} (h0 : P []) (h1 : ∀ t n b r, P b → P r → P (⟨t, n, b⟩ :: r)) : ∀ l, P l
  | [] => h0
  | ⟨t, n, b⟩ :: r => h1 t n b r (nest_two h0 h1 b) (nest_two h0 h1 r)
theorem nest_ind {P : List Lp → Prop} (h : ∀ l, (∀ x ∈ l, P x.body) → P l) (l : List Lp) : P l := by
  refine h l (nest_two (P := fun l => ∀ x ∈ l, P x.body) (fun x hx => absurd hx (List.not_mem_nil)) (fun t n b r hb hr x hx => ?_) l)
  rcases List.mem_cons.1 hx with rfl | hx
  · exact h b hb
  · exact hr x hx
/-- How many loops there are in all. -/
def sizZ : List Lp → Nat
  | [] => 0
  | ⟨_, _, b⟩ :: r => 1 + sizZ b + sizZ r
def lvsZ : List Lp → Nat
  | [] => 0
  | ⟨_, _, b⟩ :: r => (if b.isEmpty then 1 else lvsZ b) + lvsZ r
def hdsZ : List Lp → Nat
  | [] => 0
  | ⟨t, _, b⟩ :: r => (if 1 < t then 1 else 0) + hdsZ b + hdsZ r
def dpsZ (d : Nat) : List Lp → Nat
  | [] => 0
  | ⟨_, _, b⟩ :: r => max (if b.isEmpty then 0 else max (d + 1) (dpsZ (d + 1) b)) (dpsZ d r)
def totZ : List Lp → Nat
  | [] => 0
  | ⟨t, _, b⟩ :: r => t.toNat * (if b.isEmpty then 1 else totZ b) + totZ r
def repZ (n : Nat) (l : List Int) : List Int := (List.replicate n l).flatten
def expZ : List Lp → List Int
  | [] => []
  | ⟨t, n, b⟩ :: r => repZ t.toNat (if b.isEmpty then [n] else expZ b) ++ expZ r
/-- What is wrong with a loop by itself. -/
def flwZ (d lv : Nat) (t n : Int) (leaf : Bool) : Nat :=
  if 2048 ≤ lv then 5 else if leaf = false ∧ 16 < d then 161 else if t < 1 then 160 else if leaf = false ∧ n ≠ 0 then 162 else if leaf = true ∧ ¬ (0 ≤ n ∧ n < 32) then 100 else 0
def errZ (d lv : Nat) : List Lp → Nat
  | [] => 0
  | ⟨t, n, b⟩ :: r =>
    if flwZ (if b.isEmpty then d else d + 1) lv t n b.isEmpty ≠ 0 then flwZ (if b.isEmpty then d else d + 1) lv t n b.isEmpty
    else if b.isEmpty then errZ d (lv + 1) r
    else if errZ (d + 1) lv b ≠ 0 then errZ (d + 1) lv b else errZ d (lv + lvsZ b) r
/-- What is wrong with one loop, its body too; how many leaves it has; its total; its firings. -/
def oneZ (d lv : Nat) (x : Lp) : Nat :=
  if flwZ (if x.body.isEmpty then d else d + 1) lv x.times x.node x.body.isEmpty ≠ 0 then flwZ (if x.body.isEmpty then d else d + 1) lv x.times x.node x.body.isEmpty
  else if x.body.isEmpty then 0 else errZ (d + 1) lv x.body
def lv1 (x : Lp) : Nat := if x.body.isEmpty then 1 else lvsZ x.body
def hd1 (x : Lp) : Nat := (if 1 < x.times then 1 else 0) + hdsZ x.body
def dp1 (d : Nat) (x : Lp) : Nat := if x.body.isEmpty then 0 else max (d + 1) (dpsZ (d + 1) x.body)
def to1 (x : Lp) : Nat := x.times.toNat * (if x.body.isEmpty then 1 else totZ x.body)
def ex1 (x : Lp) : List Int := repZ x.times.toNat (if x.body.isEmpty then [x.node] else expZ x.body)
theorem err_cons (d lv : Nat) (x : Lp) (r : List Lp) : errZ d lv (x :: r) = if oneZ d lv x ≠ 0 then oneZ d lv x else errZ d (lv + lv1 x) r := by
  obtain ⟨t, n, b⟩ := x
  rw [errZ]
  unfold oneZ lv1
  simp only
  by_cases hf : flwZ (if b.isEmpty then d else d + 1) lv t n b.isEmpty ≠ 0
  · simp only [if_pos hf]
  · simp only [if_neg hf]
    by_cases hb : b.isEmpty = true
    · simp only [if_pos hb]
      rw [if_neg (by simp)]
    · simp only [if_neg hb]
theorem lvs_cons (x : Lp) (r : List Lp) : lvsZ (x :: r) = lv1 x + lvsZ r := by obtain ⟨t, n, b⟩ := x; rw [lvsZ]; rfl
theorem hds_cons (x : Lp) (r : List Lp) : hdsZ (x :: r) = hd1 x + hdsZ r := by obtain ⟨t, n, b⟩ := x; rw [hdsZ]; rfl
theorem dps_cons (d : Nat) (x : Lp) (r : List Lp) : dpsZ d (x :: r) = max (dp1 d x) (dpsZ d r) := by obtain ⟨t, n, b⟩ := x; rw [dpsZ]; rfl
theorem tot_cons (x : Lp) (r : List Lp) : totZ (x :: r) = to1 x + totZ r := by obtain ⟨t, n, b⟩ := x; rw [totZ]; rfl
theorem exp_cons (x : Lp) (r : List Lp) : expZ (x :: r) = ex1 x ++ expZ r := by obtain ⟨t, n, b⟩ := x; rw [expZ]; rfl
theorem siz_cons (x : Lp) (r : List Lp) : sizZ (x :: r) = 1 + sizZ x.body + sizZ r := by obtain ⟨t, n, b⟩ := x; rw [sizZ]
theorem siz_nil : sizZ [] = 0 := by rw [sizZ]
theorem lvs_nil : lvsZ [] = 0 := by rw [lvsZ]
theorem hds_nil : hdsZ [] = 0 := by rw [hdsZ]
theorem dps_nil (d : Nat) : dpsZ d [] = 0 := by rw [dpsZ]
theorem tot_nil : totZ [] = 0 := by rw [totZ]
theorem exp_nil : expZ [] = [] := by rw [expZ]
theorem err_nil_z (d lv : Nat) : errZ d lv [] = 0 := by rw [errZ]
theorem nest_one {P : List Lp → Prop} (h0 : P []) (h1 : ∀ x r, P x.body → P r → P (x :: r)) : ∀ l, P l := nest_two h0 fun t n b r hb hr => h1 ⟨t, n, b⟩ r hb hr
theorem empty_iff {b : List Lp} : b.isEmpty = true ↔ b = [] := by cases b <;> simp
theorem rep_len (n : Nat) (l : List Int) : (repZ n l).length = n * l.length := by
  unfold repZ
  induction n with
  | zero => simp
  | succ n ih => rw [List.replicate_succ, List.flatten_cons, List.length_append, ih, Nat.succ_mul]; omega
theorem rep_zero (l : List Int) : repZ 0 l = [] := rfl
theorem rep_snoc (n : Nat) (l : List Int) : repZ (n + 1) l = repZ n l ++ l := by
  unfold repZ
  rw [List.replicate_succ', List.flatten_append]
  simp
theorem exp_len : ∀ (l : List Lp), (expZ l).length = totZ l := by
  refine nest_one (by rw [exp_nil, tot_nil]; rfl) fun x r hb hr => ?_
  rw [exp_cons, tot_cons, List.length_append, hr]
  unfold ex1 to1
  rw [rep_len]
  by_cases e : x.body.isEmpty = true
  · rw [if_pos e, if_pos e]; rfl
  · rw [if_neg e, if_neg e, hb]
theorem flw_zero {d lv : Nat} {t n : Int} {leaf : Bool} (h : flwZ d lv t n leaf = 0) : lv < 2048 ∧ (leaf = false → d ≤ 16 ∧ n = 0) ∧ 1 ≤ t ∧ (leaf = true → 0 ≤ n ∧ n < 32) := by
  unfold flwZ at h
  by_cases h1 : 2048 ≤ lv
  · rw [if_pos h1] at h; exact absurd h (by decide)
  rw [if_neg h1] at h
  by_cases h2 : leaf = false ∧ 16 < d
  · rw [if_pos h2] at h; exact absurd h (by decide)
  rw [if_neg h2] at h
  by_cases h3 : t < 1
  · rw [if_pos h3] at h; exact absurd h (by decide)
  rw [if_neg h3] at h
  by_cases h4 : leaf = false ∧ n ≠ 0
  · rw [if_pos h4] at h; exact absurd h (by decide)
  rw [if_neg h4] at h
  by_cases h5 : leaf = true ∧ ¬ (0 ≤ n ∧ n < 32)
  · rw [if_pos h5] at h; exact absurd h (by decide)
  refine ⟨by omega, fun e => ⟨?_, ?_⟩, by omega, fun e => ?_⟩
  · by_cases q : 16 < d
    · exact absurd ⟨e, q⟩ h2
    · omega
  · by_cases q : n = 0
    · exact q
    · exact absurd ⟨e, q⟩ h4
  · by_cases q : 0 ≤ n ∧ n < 32
    · exact q
    · exact absurd ⟨e, q⟩ h5
theorem err_zero {d lv : Nat} {x : Lp} {r : List Lp} (h : errZ d lv (x :: r) = 0) : oneZ d lv x = 0 ∧ errZ d (lv + lv1 x) r = 0 := by
  rw [err_cons] at h
  by_cases q : oneZ d lv x ≠ 0
  · rw [if_pos q] at h; exact absurd h q
  · rw [if_neg q] at h; exact ⟨by omega, h⟩
theorem one_zero {d lv : Nat} {x : Lp} (h : oneZ d lv x = 0) : flwZ (if x.body.isEmpty then d else d + 1) lv x.times x.node x.body.isEmpty = 0 ∧ (x.body ≠ [] → errZ (d + 1) lv x.body = 0) := by
  unfold oneZ at h
  by_cases q : flwZ (if x.body.isEmpty then d else d + 1) lv x.times x.node x.body.isEmpty ≠ 0
  · rw [if_pos q] at h; exact absurd h q
  · rw [if_neg q] at h
    refine ⟨by omega, fun e => ?_⟩
    rwa [if_neg (fun k => e (empty_iff.1 k))] at h
/-- All Times are at least 1, and nodes are nodes. -/
def posZ : List Lp → Prop
  | [] => True
  | ⟨t, n, b⟩ :: r => 1 ≤ t ∧ (0 ≤ n ∧ n < 32) ∧ posZ b ∧ posZ r
theorem pos_cons (x : Lp) (r : List Lp) : posZ (x :: r) ↔ 1 ≤ x.times ∧ (0 ≤ x.node ∧ x.node < 32) ∧ posZ x.body ∧ posZ r := by obtain ⟨t, n, b⟩ := x; rw [posZ]
theorem pos_nil : posZ [] := by rw [posZ]; trivial
theorem err_pos : ∀ (l : List Lp) (d lv : Nat), errZ d lv l = 0 → posZ l := by
  refine nest_one (fun _ _ _ => pos_nil) fun x r hb hr d lv h => ?_
  obtain ⟨h1, h2⟩ := err_zero h
  obtain ⟨h3, h4⟩ := one_zero h1
  obtain ⟨-, h5, h6, h7⟩ := flw_zero h3
  rw [pos_cons]
  refine ⟨h6, ?_, ?_, hr d _ h2⟩
  · by_cases e : x.body.isEmpty = true
    · exact h7 e
    · have := (h5 (by simpa using e)).2; omega
  · by_cases e : x.body = []
    · rw [e]; exact pos_nil
    · exact hb _ _ (h4 e)
theorem pos_tot : ∀ {l : List Lp}, posZ l → l ≠ [] → 1 ≤ totZ l := by
  refine @nest_one (fun l => posZ l → l ≠ [] → 1 ≤ totZ l) (fun _ h => absurd rfl h) fun x r hb hr h _ => ?_
  obtain ⟨h1, -, h3, -⟩ := (pos_cons x r).1 h
  rw [tot_cons]
  have : 1 ≤ to1 x := by
    unfold to1
    have ht : 1 ≤ x.times.toNat := by omega
    by_cases e : x.body.isEmpty = true
    · rw [if_pos e]; omega
    · rw [if_neg e]; exact Nat.mul_pos ht (hb h3 (fun k => e (empty_iff.2 k)))
  omega
theorem err_lvs : ∀ (l : List Lp) (d lv : Nat), lv ≤ 2048 → errZ d lv l = 0 → lv + lvsZ l ≤ 2048 := by
  refine nest_one (fun d lv h _ => by rw [lvs_nil]; omega) fun x r hb hr d lv hl h => ?_
  obtain ⟨h1, h2⟩ := err_zero h
  obtain ⟨h3, h4⟩ := one_zero h1
  have h5 := (flw_zero h3).1
  rw [lvs_cons]
  have : lv + lv1 x ≤ 2048 := by
    unfold lv1
    by_cases e : x.body.isEmpty = true
    · rw [if_pos e]; omega
    · rw [if_neg e]; exact hb _ _ hl (h4 (fun k => e (empty_iff.2 k)))
  have := hr d _ this h2
  omega
theorem one_lvs {d lv : Nat} {x : Lp} (h : oneZ d lv x = 0) (hl : lv ≤ 2048) : lv + lv1 x ≤ 2048 := by
  obtain ⟨h3, h4⟩ := one_zero h
  have h5 := (flw_zero h3).1
  unfold lv1
  by_cases e : x.body.isEmpty = true
  · rw [if_pos e]; omega
  · rw [if_neg e]; exact err_lvs _ _ _ hl (h4 (fun k => e (empty_iff.2 k)))
theorem err_deep : ∀ (l : List Lp) (d lv : Nat), errZ d lv l = 0 → dpsZ d l ≤ 16 := by
  refine nest_one (fun d lv _ => by rw [dps_nil]; omega) fun x r hb hr d lv h => ?_
  obtain ⟨h1, h2⟩ := err_zero h
  obtain ⟨h3, h4⟩ := one_zero h1
  rw [dps_cons]
  have h6 := hr d _ h2
  have : dp1 d x ≤ 16 := by
    unfold dp1
    by_cases e : x.body.isEmpty = true
    · rw [if_pos e]; omega
    · rw [if_neg e]
      rw [if_neg e] at h3
      have h5 := ((flw_zero h3).2.1 (by simpa using e)).1
      have := hb _ _ (h4 (fun k => e (empty_iff.2 k)))
      omega
  omega
theorem hds_siz : ∀ (l : List Lp), hdsZ l ≤ sizZ l := by
  refine nest_one (by rw [hds_nil]; omega) fun x r hb hr => ?_
  rw [hds_cons, siz_cons]
  unfold hd1
  split <;> omega
theorem lvs_pos : ∀ {l : List Lp}, l ≠ [] → 1 ≤ lvsZ l := by
  refine @nest_one (fun l => l ≠ [] → 1 ≤ lvsZ l) (fun h => absurd rfl h) fun x r hb hr _ => ?_
  rw [lvs_cons]
  unfold lv1
  by_cases e : x.body.isEmpty = true
  · rw [if_pos e]; omega
  · rw [if_neg e]; have := hb (fun k => e (empty_iff.2 k)); omega
/-- Check's answer. -/
def chkZ (l : List Lp) : Nat := if errZ 0 0 l ≠ 0 then errZ 0 0 l else if 2048 < totZ l then 5 else 0
theorem chk_zero {l : List Lp} (h : chkZ l = 0) : errZ 0 0 l = 0 ∧ totZ l ≤ 2048 := by
  unfold chkZ at h
  by_cases q : errZ 0 0 l ≠ 0
  · rw [if_pos q] at h; exact absurd h q
  · rw [if_neg q] at h
    by_cases k : 2048 < totZ l
    · rw [if_pos k] at h; exact absurd h (by decide)
    · exact ⟨by omega, by omega⟩
/-- Capped numbers. -/
theorem cap_add (a b : Nat) : min (min a 2049 + min b 2049) 2049 = min (a + b) 2049 := by omega
theorem cap_mul {a b : Nat} (ha : 1 ≤ a) (hb : 1 ≤ b) : min (min a 2049 * min b 2049) 2049 = min (a * b) 2049 := by
  by_cases h1 : a ≤ 2049 <;> by_cases h2 : b ≤ 2049
  · rw [Nat.min_eq_left h1, Nat.min_eq_left h2]
  · have e1 : min b 2049 = 2049 := by omega
    rw [Nat.min_eq_left h1, e1]
    have k1 : 2049 ≤ a * 2049 := Nat.le_mul_of_pos_left _ ha
    have k2 : a * 2049 ≤ a * b := Nat.mul_le_mul_left _ (by omega)
    omega
  · have e1 : min a 2049 = 2049 := by omega
    rw [Nat.min_eq_left h2, e1]
    have k1 : 2049 ≤ 2049 * b := Nat.le_mul_of_pos_right _ hb
    have k2 : 2049 * b ≤ a * b := Nat.mul_le_mul_right _ (by omega)
    omega
  · have e1 : min a 2049 = 2049 := by omega
    have e2 : min b 2049 = 2049 := by omega
    rw [e1, e2]
    have k2 : 2049 * 2049 ≤ a * b := Nat.mul_le_mul (by omega) (by omega)
    omega
theorem get_snoc {α : Type} {L : List α} {y : α} {i : Nat} {x : α} (h : (L ++ [y])[i]? = some x) : L[i]? = some x ∨ (i = L.length ∧ x = y) := by
  by_cases hi : i < L.length
  · rw [List.getElem?_append_left hi] at h; exact .inl h
  · rw [List.getElem?_append_right (by omega)] at h
    obtain ⟨j, hj⟩ : ∃ j, i - L.length = j := ⟨_, rfl⟩
    rw [hj] at h
    cases j with
    | zero => exact .inr ⟨by omega, (Option.some.inj h).symm⟩
    | succ j => simp at h
theorem get_left {α : Type} {L M : List α} {i : Nat} {x : α} (h : L[i]? = some x) : (L ++ M)[i]? = some x := by
  rw [List.getElem?_append_left (List.getElem?_eq_some_iff.1 h).1]; exact h
theorem get_last {α : Type} (L : List α) (y : α) : (L ++ [y])[L.length]? = some y := by
  rw [List.getElem?_append_right (Nat.le_refl _), Nat.sub_self]; rfl
theorem get_one {α : Type} {L : List α} (hn : L.Nodup) {i j : Nat} {x : α} (hi : L[i]? = some x) (hj : L[j]? = some x) : i = j := by
  obtain ⟨hi1, hi2⟩ := List.getElem?_eq_some_iff.1 hi
  obtain ⟨hj1, hj2⟩ := List.getElem?_eq_some_iff.1 hj
  exact (List.getElem_inj hn).1 (hi2.trans hj2.symm)
theorem nodup_snoc {α : Type} {L : List α} {x : α} (hn : L.Nodup) (hx : x ∉ L) : (L ++ [x]).Nodup := by
  rw [List.nodup_append]
  exact ⟨hn, by simp, fun a ha b hb e => hx (by rw [List.mem_singleton.1 hb] at e; rw [← e]; exact ha)⟩
theorem get_mem {α : Type} {L : List α} {x : α} (h : x ∈ L) : ∃ i : Nat, L[i]? = some x := List.mem_iff_getElem?.1 h
theorem mem_get {α : Type} {L : List α} {i : Nat} {x : α} (h : L[i]? = some x) : x ∈ L := List.mem_of_getElem? h
/-- Where a key stands first; how many keys there are, where it does not. -/
def idxM (Ks : List (List Int)) (k : List Int) : Nat := Ks.idxOf k
theorem idxM_in {Ks : List (List Int)} {k : List Int} (h : k ∈ Ks) : Ks[idxM Ks k]? = some k := by
  unfold idxM
  rw [List.getElem?_eq_getElem (List.idxOf_lt_length_of_mem h), List.getElem_idxOf]
theorem idxM_snoc {Ks : List (List Int)} {k : List Int} (h : k ∉ Ks) : idxM (Ks ++ [k]) k = Ks.length := by
  unfold idxM
  rw [List.idxOf_append, if_neg h]
  simp
theorem idxM_other {Ks : List (List Int)} {k q : List Int} (hq : q ∈ Ks) : idxM (Ks ++ [k]) q = idxM Ks q := by
  unfold idxM
  rw [List.idxOf_append, if_pos hq]
/-- Rows and their numbers. -/
structure RowP (R Ps : List (List Int)) : Prop where
  len : Ps.length = R.length + 1
  zero : Ps[0]? = some []
  link : ∀ (i : Nat) q, R[i]? = some q → ∃ (a : Nat) (x : Int) (p : List Int), q = [(a : Int), x] ∧ Ps[a]? = some p ∧ Ps[i + 1]? = some (p ++ [x])
  one : Ps.Nodup
  all : ∀ (a : Nat) p x, Ps[a]? = some p → p ++ [x] ∈ Ps → [(a : Int), x] ∈ R
theorem RowP.there {R Ps : List (List Int)} (h : RowP R Ps) {a : Nat} {p : List Int} {x : Int} (ha : Ps[a]? = some p) (hx : [(a : Int), x] ∈ R) : Ps[idxM R [(a : Int), x] + 1]? = some (p ++ [x]) := by
  obtain ⟨a', x', p', e, h1, h2⟩ := h.link _ _ (idxM_in hx)
  simp only [List.cons.injEq, and_true] at e
  obtain ⟨e1, e2⟩ := e
  have e3 : a = a' := by omega
  subst e3
  rw [ha] at h1
  cases h1
  subst e2
  exact h2
theorem RowP.off {R Ps : List (List Int)} (h : RowP R Ps) {a : Nat} {p : List Int} {x : Int} (ha : Ps[a]? = some p) (hx : [(a : Int), x] ∉ R) : p ++ [x] ∉ Ps := fun k => hx (h.all a p x ha k)
theorem RowP.init {R Ps : List (List Int)} (h : RowP R Ps) {p : List Int} {x : Int} (hp : p ++ [x] ∈ Ps) : p ∈ Ps := by
  obtain ⟨i, hi⟩ := get_mem hp
  cases i with
  | zero => rw [h.zero] at hi; have := congrArg List.length (Option.some.inj hi); simp at this
  | succ i =>
    have hl := (List.getElem?_eq_some_iff.1 hi).1
    have hR : i < R.length := by have := h.len; omega
    obtain ⟨a, y, q, -, h1, h2⟩ := h.link i R[i] (List.getElem?_eq_getElem hR)
    rw [hi] at h2
    have e := List.append_inj_left' (Option.some.inj h2) rfl
    rw [e]
    exact mem_get h1
theorem RowP.put {R Ps : List (List Int)} (h : RowP R Ps) {a : Nat} {p : List Int} {x : Int} (ha : Ps[a]? = some p) (hx : [(a : Int), x] ∉ R) : RowP (R ++ [[(a : Int), x]]) (Ps ++ [p ++ [x]]) := by
  have off := h.off ha hx
  refine ⟨by rw [List.length_append, List.length_append, h.len]; rfl, get_left h.zero, fun i q hi => ?_, nodup_snoc h.one off, fun b q y hb hq => ?_⟩
  · rcases get_snoc hi with hi | ⟨rfl, rfl⟩
    · obtain ⟨a', x', p', e, h1, h2⟩ := h.link i q hi
      exact ⟨a', x', p', e, get_left h1, get_left h2⟩
    · refine ⟨a, x, p, rfl, get_left ha, ?_⟩
      rw [← h.len]
      exact get_last _ _
  · rcases get_snoc hb with hb | ⟨rfl, rfl⟩
    · rcases List.mem_append.1 hq with hq | hq
      · exact List.mem_append_left _ (h.all b q y hb hq)
      · have e := List.mem_singleton.1 hq
        have e1 := List.append_inj_left' e rfl
        have e2 := List.append_inj_right' e rfl
        simp only [List.cons.injEq, and_true] at e2
        rw [e1] at hb
        rw [get_one h.one hb ha, e2]
        exact List.mem_append_right _ (List.mem_singleton.2 rfl)
    · rcases List.mem_append.1 hq with hq | hq
      · exact absurd (h.init hq) off
      · have e := congrArg List.length (List.mem_singleton.1 hq)
        simp at e
/-- Numbers as loops. -/
def RpZ (V : List Lp) : List Int → List Lp → Prop
  | [], [] => True
  | x :: ns, y :: l => (∃ k : Nat, x = (k : Int) ∧ V[k]? = some y) ∧ RpZ V ns l
  | [], _ :: _ => False
  | _ :: _, [] => False
theorem RpZ.len {V : List Lp} : ∀ {ns : List Int} {l : List Lp}, RpZ V ns l → ns.length = l.length
  | [], [], _ => rfl
  | _ :: _, _ :: _, h => by rw [List.length_cons, List.length_cons, RpZ.len h.2]
  | [], _ :: _, h => h.elim
  | _ :: _, [], h => h.elim
theorem RpZ.more {V : List Lp} (T : List Lp) : ∀ {ns : List Int} {l : List Lp}, RpZ V ns l → RpZ (V ++ T) ns l
  | [], [], _ => trivial
  | _ :: _, _ :: _, ⟨⟨k, e, h⟩, h2⟩ => ⟨⟨k, e, get_left h⟩, RpZ.more T h2⟩
  | [], _ :: _, h => h.elim
  | _ :: _, [], h => h.elim
theorem RpZ.one {V : List Lp} (hn : V.Nodup) : ∀ {ns ms : List Int} {l : List Lp}, RpZ V ns l → RpZ V ms l → ns = ms
  | [], [], [], _, _ => rfl
  | _ :: _, _ :: _, _ :: _, ⟨⟨_, e, h⟩, h2⟩, ⟨⟨_, f, g⟩, g2⟩ => by rw [e, f, get_one hn h g, RpZ.one hn h2 g2]
  | [], _ :: _, [], _, h => h.elim
  | _ :: _, _, [], h, _ => h.elim
  | [], _, _ :: _, h, _ => h.elim
  | _ :: _, [], _ :: _, _, h => h.elim
theorem RpZ.append {V : List Lp} : ∀ {ns ms : List Int} {l m : List Lp}, RpZ V ns l → RpZ V ms m → RpZ V (ns ++ ms) (l ++ m)
  | [], _, [], _, _, h => h
  | _ :: _, _, _ :: _, _, ⟨h1, h2⟩, h => ⟨h1, RpZ.append h2 h⟩
  | [], _, _ :: _, _, h, _ => h.elim
  | _ :: _, _, [], _, h, _ => h.elim
theorem RpZ.drop {V : List Lp} : ∀ {ns : List Int} {l : List Lp} (k : Nat), RpZ V ns l → RpZ V (ns.drop k) (l.drop k)
  | _, _, 0, h => h
  | [], [], _ + 1, h => by simpa using h
  | _ :: _, _ :: _, k + 1, h => RpZ.drop k h.2
  | [], _ :: _, _ + 1, h => h.elim
  | _ :: _, [], _ + 1, h => h.elim
theorem RpZ.take {V : List Lp} : ∀ {ns : List Int} {l : List Lp} (k : Nat), RpZ V ns l → RpZ V (ns.take k) (l.take k)
  | _, _, 0, _ => trivial
  | [], [], _ + 1, _ => trivial
  | _ :: _, _ :: _, k + 1, h => ⟨h.1, RpZ.take k h.2⟩
  | [], _ :: _, _ + 1, h => h.elim
  | _ :: _, [], _ + 1, h => h.elim
theorem RpZ.val {V : List Lp} : ∀ {ns : List Int} {l m : List Lp}, RpZ V ns l → RpZ V ns m → l = m
  | [], [], [], _, _ => rfl
  | _ :: _, _ :: _, _ :: _, ⟨⟨k, e, h⟩, h2⟩, ⟨⟨j, f, g⟩, g2⟩ => by
    have : k = j := by omega
    subst this
    rw [h] at g
    cases g
    rw [RpZ.val h2 g2]
  | [], _ :: _, _, h, _ => h.elim
  | [], [], _ :: _, _, h => h.elim
  | _ :: _, [], _, h, _ => h.elim
  | _ :: _, _ :: _, [], _, h => h.elim
/-- Loops and their numbers. -/
structure BkP (R Ps LK : List (List Int)) (Kb : List (Int × Int × List Int)) (V : List Lp) : Prop where
  row : RowP R Ps
  len : LK.length = Kb.length
  vlen : V.length = Kb.length
  look : ∀ (i : Nat) t n bs, Kb[i]? = some (t, n, bs) → ∃ r : Nat, LK[i]? = some [t, n, (r : Int)] ∧ Ps[r]? = some bs
  val : ∀ (i : Nat) t n bs, Kb[i]? = some (t, n, bs) → ∃ l, V[i]? = some ⟨t, n, l⟩ ∧ RpZ V bs l
  one : V.Nodup
theorem BkP.rows {R Ps LK R' T : List (List Int)} {Kb : List (Int × Int × List Int)} {V : List Lp} (h : BkP R Ps LK Kb V) (hr : RowP R' (Ps ++ T)) : BkP R' (Ps ++ T) LK Kb V :=
  ⟨hr, h.len, h.vlen, fun i t n bs hi => by obtain ⟨r, h1, h2⟩ := h.look i t n bs hi; exact ⟨r, h1, get_left h2⟩, h.val, h.one⟩
/-- The loop has its number. -/
theorem BkP.there {R Ps LK : List (List Int)} {Kb : List (Int × Int × List Int)} {V : List Lp} (h : BkP R Ps LK Kb V) {t n : Int} {r : Nat} {bs : List Int} {l : List Lp} (hr : Ps[r]? = some bs) (hl : RpZ V bs l) (hk : [t, n, (r : Int)] ∈ LK) : V[idxM LK [t, n, (r : Int)]]? = some ⟨t, n, l⟩ ∧ idxM LK [t, n, (r : Int)] < Kb.length := by
  have hi := idxM_in hk
  have hlt : idxM LK [t, n, (r : Int)] < Kb.length := by rw [← h.len]; exact (List.getElem?_eq_some_iff.1 hi).1
  refine ⟨?_, hlt⟩
  obtain ⟨⟨t', n', bs'⟩, hb⟩ : ∃ q, Kb[idxM LK [t, n, (r : Int)]]? = some q := ⟨_, List.getElem?_eq_getElem hlt⟩
  obtain ⟨r', h1, h2⟩ := h.look _ _ _ _ hb
  rw [hi] at h1
  simp only [Option.some.injEq, List.cons.injEq, and_true] at h1
  obtain ⟨rfl, rfl, e⟩ := h1
  have e3 : r = r' := by omega
  subst e3
  rw [hr] at h2
  cases h2
  obtain ⟨l', h3, h4⟩ := h.val _ _ _ _ hb
  rw [h3]
  rw [RpZ.val hl h4]
theorem BkP.put {R Ps LK : List (List Int)} {Kb : List (Int × Int × List Int)} {V : List Lp} (h : BkP R Ps LK Kb V) {t n : Int} {r : Nat} {bs : List Int} {l : List Lp} (hr : Ps[r]? = some bs) (hl : RpZ V bs l) (hk : [t, n, (r : Int)] ∉ LK) : BkP R Ps (LK ++ [[t, n, (r : Int)]]) (Kb ++ [(t, n, bs)]) (V ++ [⟨t, n, l⟩]) := by
  refine ⟨h.row, by rw [List.length_append, List.length_append, h.len]; rfl, by rw [List.length_append, List.length_append, h.vlen]; rfl, fun i t' n' bs' hi => ?_, fun i t' n' bs' hi => ?_, nodup_snoc h.one fun hm => ?_⟩
  · rcases get_snoc hi with hi | ⟨rfl, e⟩
    · obtain ⟨r', h1, h2⟩ := h.look i _ _ _ hi
      exact ⟨r', get_left h1, h2⟩
    · cases e
      exact ⟨r, by rw [← h.len]; exact get_last _ _, hr⟩
  · rcases get_snoc hi with hi | ⟨rfl, e⟩
    · obtain ⟨l', h1, h2⟩ := h.val i _ _ _ hi
      exact ⟨l', get_left h1, h2.more _⟩
    · cases e
      exact ⟨l, by rw [← h.vlen]; exact get_last _ _, hl.more _⟩
  · obtain ⟨i, hi⟩ := get_mem hm
    have hlt : i < Kb.length := by rw [← h.vlen]; exact (List.getElem?_eq_some_iff.1 hi).1
    obtain ⟨⟨t', n', bs'⟩, hb⟩ : ∃ q, Kb[i]? = some q := ⟨_, List.getElem?_eq_getElem hlt⟩
    obtain ⟨l', h1, h2⟩ := h.val _ _ _ _ hb
    obtain ⟨r', h3, h4⟩ := h.look _ _ _ _ hb
    rw [hi] at h1
    simp only [Option.some.injEq, Lp.mk.injEq] at h1
    obtain ⟨rfl, rfl, rfl⟩ := h1
    have e := RpZ.one h.one hl h2
    subst e
    have e2 := get_one h.row.one hr h4
    subst e2
    exact hk (mem_get h3)
end Go.Proofs.Ytmeogapffdgjlaa

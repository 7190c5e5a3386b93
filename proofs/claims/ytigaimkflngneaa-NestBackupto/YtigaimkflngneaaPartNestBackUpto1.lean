/- Texts of one chain, laid one behind the other. -/
import Derived.RowKit
namespace Go.Proofs.Ytigaimkflngneaa
open Go.RowKit
/-! ### Rows of numbers -/
def nth (zs : List Int) (k : Nat) : Int := zs.getD k 0
def InR (zs : List Int) : Prop := ∀ k, -9223372036854775808 ≤ nth zs k ∧ nth zs k ≤ 9223372036854775807
theorem inR0 : InR [] := fun k => by
  have e : nth [] k = 0 := by simp [nth]
  rw [e]; decide
end Go.Proofs.Ytigaimkflngneaa
namespace Go.Proofs.Ytigaimkflngneaa
structure Lp where
  times : Int
  node : Int
  body : List Lp
theorem nest_two {P : List Lp → Prop} (h0 : P []) (h1 : ∀ t n b r, P b → P r → P (⟨t, n, b⟩ :: r)) : ∀ l, P l
  | [] => h0
  | ⟨t, n, b⟩ :: r => h1 t n b r (nest_two h0 h1 b) (nest_two h0 h1 r)
theorem nest_ind {P : List Lp → Prop} (h : ∀ l, (∀ x ∈ l, P x.body) → P l) (l : List Lp) : P l := by
  refine h l (nest_two (P := fun l => ∀ x ∈ l, P x.body) (fun x hx => absurd hx (List.not_mem_nil)) (fun t n b r hb hr x hx => ?_) l)
  rcases List.mem_cons.1 hx with rfl | hx
  · exact h b hb
  · exact hr x hx
/-- How many loops there are in all. -/
def sizZ : List Lp → Nat
  | [] => 0
  | ⟨_, _, b⟩ :: r => 1 + sizZ b + sizZ r
def lvsZ : List Lp → Nat
  | [] => 0
  | ⟨_, _, b⟩ :: r => (if b.isEmpty then 1 else lvsZ b) + lvsZ r
def hdsZ : List Lp → Nat
  | [] => 0
  | ⟨t, _, b⟩ :: r => (if 1 < t then 1 else 0) + hdsZ b + hdsZ r
def dpsZ (d : Nat) : List Lp → Nat
  | [] => 0
  | ⟨_, _, b⟩ :: r => max (if b.isEmpty then 0 else max (d + 1) (dpsZ (d + 1) b)) (dpsZ d r)
def totZ : List Lp → Nat
  | [] => 0
  | ⟨t, _, b⟩ :: r => t.toNat * (if b.isEmpty then 1 else totZ b) + totZ r
def repZ (n : Nat) (l : List Int) : List Int := (List.replicate n l).flatten
def expZ : List Lp → List Int
  | [] => []
  | ⟨t, n, b⟩ :: r => repZ t.toNat (if b.isEmpty then [n] else expZ b) ++ expZ r
/-- What is wrong with a loop by itself. -/
def flwZ (d lv : Nat) (t n : Int) (leaf : Bool) : Nat :=
  if 2048 ≤ lv then 5 else if leaf = false ∧ 16 < d then 161 else if t < 1 then 160 else if leaf = false ∧ n ≠ 0 then 162 else if leaf = true ∧ ¬ (0 ≤ n ∧ n < 32) then 100 else 0
def errZ (d lv : Nat) : List Lp → Nat
  | [] => 0
  | ⟨t, n, b⟩ :: r =>
    if flwZ (if b.isEmpty then d else d + 1) lv t n b.isEmpty ≠ 0 then flwZ (if b.isEmpty then d else d + 1) lv t n b.isEmpty
    else if b.isEmpty then errZ d (lv + 1) r
    else if errZ (d + 1) lv b ≠ 0 then errZ (d + 1) lv b else errZ d (lv + lvsZ b) r
/-- What is wrong with one loop, its body too; how many leaves it has; its total; its firings. -/
def oneZ (d lv : Nat) (x : Lp) : Nat :=
  if flwZ (if x.body.isEmpty then d else d + 1) lv x.times x.node x.body.isEmpty ≠ 0 then flwZ (if x.body.isEmpty then d else d + 1) lv x.times x.node x.body.isEmpty
  else if x.body.isEmpty then 0 else errZ (d + 1) lv x.body
def lv1 (x : Lp) : Nat := if x.body.isEmpty then 1 else lvsZ x.body
def hd1 (x : Lp) : Nat := (if 1 < x.times then 1 else 0) + hdsZ x.body
def dp1 (d : Nat) (x : Lp) : Nat := if x.body.isEmpty then 0 else max (d + 1) (dpsZ (d + 1) x.body)
def to1 (x : Lp) : Nat := x.times.toNat * (if x.body.isEmpty then 1 else totZ x.body)
def ex1 (x : Lp) : List Int := repZ x.times.toNat (if x.body.isEmpty then [x.node] else expZ x.body)
theorem err_cons (d lv : Nat) (x : Lp) (r : List Lp) : errZ d lv (x :: r) = if oneZ d lv x ≠ 0 then oneZ d lv x else errZ d (lv + lv1 x) r := by
  obtain ⟨t, n, b⟩ := x
  rw [errZ]
  unfold oneZ lv1
  simp only
  by_cases hf : flwZ (if b.isEmpty then d else d + 1) lv t n b.isEmpty ≠ 0
  · simp only [if_pos hf]
  · simp only [if_neg hf]
    by_cases hb : b.isEmpty = true
    · simp only [if_pos hb]
      rw [if_neg (by simp)]
    · simp only [if_neg hb]
theorem lvs_cons (x : Lp) (r : List Lp) : lvsZ (x :: r) = lv1 x + lvsZ r := by obtain ⟨t, n, b⟩ := x; rw [lvsZ]; rfl
theorem hds_cons (x : Lp) (r : List Lp) : hdsZ (x :: r) = hd1 x + hdsZ r := by obtain ⟨t, n, b⟩ := x; rw [hdsZ]; rfl
theorem dps_cons (d : Nat) (x : Lp) (r : List Lp) : dpsZ d (x :: r) = max (dp1 d x) (dpsZ d r) := by obtain ⟨t, n, b⟩ := x; rw [dpsZ]; rfl
theorem tot_cons (x : Lp) (r : List Lp) : totZ (x :: r) = to1 x + totZ r := by obtain ⟨t, n, b⟩ := x; rw [totZ]; rfl
theorem exp_cons (x : Lp) (r : List Lp) : expZ (x :: r) = ex1 x ++ expZ r := by obtain ⟨t, n, b⟩ := x; rw [expZ]; rfl
theorem siz_cons (x : Lp) (r : List Lp) : sizZ (x :: r) = 1 + sizZ x.body + sizZ r := by obtain ⟨t, n, b⟩ := x; rw [sizZ]
theorem siz_nil : sizZ [] = 0 := by rw [sizZ]
theorem lvs_nil : lvsZ [] = 0 := by rw [lvsZ]
theorem hds_nil : hdsZ [] = 0 := by rw [hdsZ]
theorem dps_nil (d : Nat) : dpsZ d [] = 0 := by rw [dpsZ]
theorem tot_nil : totZ [] = 0 := by rw [totZ]
theorem exp_nil : expZ [] = [] := by rw [expZ]
theorem err_nil_z (d lv : Nat) : errZ d lv [] = 0 := by rw [errZ]
theorem nest_one {P : List Lp → Prop} (h0 : P []) (h1 : ∀ x r, P x.body → P r → P (x :: r)) : ∀ l, P l := nest_two h0 fun t n b r hb hr => h1 ⟨t, n, b⟩ r hb hr
theorem empty_iff {b : List Lp} : b.isEmpty = true ↔ b = [] := by cases b <;> simp
theorem rep_len (n : Nat) (l : List Int) : (repZ n l).length = n * l.length := by
  unfold repZ
  induction n with
  | zero => simp
  | succ n ih => rw [List.replicate_succ, List.flatten_cons, List.length_append, ih, Nat.succ_mul]; omega
theorem rep_zero (l : List Int) : repZ 0 l = [] := rfl
theorem rep_snoc (n : Nat) (l : List Int) : repZ (n + 1) l = repZ n l ++ l := by
  unfold repZ
  rw [List.replicate_succ', List.flatten_append]
  simp
theorem exp_len : ∀ (l : List Lp), (expZ l).length = totZ l := by
  refine nest_one (by rw [exp_nil, tot_nil]; rfl) fun x r hb hr => ?_
  rw [exp_cons, tot_cons, List.length_append, hr]
  unfold ex1 to1
  rw [rep_len]
  by_cases e : x.body.isEmpty = true
  · rw [if_pos e, if_pos e]; rfl
  · rw [if_neg e, if_neg e, hb]
theorem flw_zero {d lv : Nat} {t n : Int} {leaf : Bool} (h : flwZ d lv t n leaf = 0) : lv < 2048 ∧ (leaf = false → d ≤ 16 ∧ n = 0) ∧ 1 ≤ t ∧ (leaf = true → 0 ≤ n ∧ n < 32) := by
  unfold flwZ at h
  by_cases h1 : 2048 ≤ lv
  · rw [if_pos h1] at h; exact absurd h (by decide)
  rw [if_neg h1] at h
  by_cases h2 : leaf = false ∧ 16 < d
  · rw [if_pos h2] at h; exact absurd h (by decide)
  rw [if_neg h2] at h
  by_cases h3 : t < 1
  · rw [if_pos h3] at h; exact absurd h (by decide)
  rw [if_neg h3] at h
  by_cases h4 : leaf = false ∧ n ≠ 0
  · rw [if_pos h4] at h; exact absurd h (by decide)
  rw [if_neg h4] at h
  by_cases h5 : leaf = true ∧ ¬ (0 ≤ n ∧ n < 32)
  · rw [if_pos h5] at h; exact absurd h (by decide)
  refine ⟨by omega, fun e => ⟨?_, ?_⟩, by omega, fun e => ?_⟩
  · by_cases q : 16 < d
    · exact absurd ⟨e, q⟩ h2
    · omega
  · by_cases q : n = 0
    · exact q
    · exact absurd ⟨e, q⟩ h4
  · by_cases q : 0 ≤ n ∧ n < 32
    · exact q
    · exact absurd ⟨e, q⟩ h5
theorem err_zero {d lv : Nat} {x : Lp} {r : List Lp} (h : errZ d lv (x :: r) = 0) : oneZ d lv x = 0 ∧ errZ d (lv + lv1 x) r = 0 := by
  rw [err_cons] at h
  by_cases q : oneZ d lv x ≠ 0
  · rw [if_pos q] at h; exact absurd h q
  · rw [if_neg q] at h; exact ⟨by omega, h⟩
theorem one_zero {d lv : Nat} {x : Lp} (h : oneZ d lv x = 0) : flwZ (if x.body.isEmpty then d else d + 1) lv x.times x.node x.body.isEmpty = 0 ∧ (x.body ≠ [] → errZ (d + 1) lv x.body = 0) := by
  unfold oneZ at h
  by_cases q : flwZ (if x.body.isEmpty then d else d + 1) lv x.times x.node x.body.isEmpty ≠ 0
  · rw [if_pos q] at h; exact absurd h q
  · rw [if_neg q] at h
    refine ⟨by omega, fun e => ?_⟩
    rwa [if_neg (fun k => e (empty_iff.1 k))] at h
/-- All Times are at least 1, and nodes are nodes. -/
def posZ : List Lp → Prop
  | [] => True
  | ⟨t, n, b⟩ :: r => 1 ≤ t ∧ (0 ≤ n ∧ n < 32) ∧ posZ b ∧ posZ r
theorem pos_cons (x : Lp) (r : List Lp) : posZ (x :: r) ↔ 1 ≤ x.times ∧ (0 ≤ x.node ∧ x.node < 32) ∧ posZ x.body ∧ posZ r := by obtain ⟨t, n, b⟩ := x; rw [posZ]
theorem pos_nil : posZ [] := by rw [posZ]; trivial
theorem err_pos : ∀ (l : List Lp) (d lv : Nat), errZ d lv l = 0 → posZ l := by
  refine nest_one (fun _ _ _ => pos_nil) fun x r hb hr d lv h => ?_
  obtain ⟨h1, h2⟩ := err_zero h
  obtain ⟨h3, h4⟩ := one_zero h1
  obtain ⟨-, h5, h6, h7⟩ := flw_zero h3
  rw [pos_cons]
  refine ⟨h6, ?_, ?_, hr d _ h2⟩
  · by_cases e : x.body.isEmpty = true
    · exact h7 e
    · have := (h5 (by simpa using e)).2; omega
  · by_cases e : x.body = []
    · rw [e]; exact pos_nil
    · exact hb _ _ (h4 e)
theorem pos_tot : ∀ {l : List Lp}, posZ l → l ≠ [] → 1 ≤ totZ l := by
  refine @nest_one (fun l => posZ l → l ≠ [] → 1 ≤ totZ l) (fun _ h => absurd rfl h) fun x r hb hr h _ => ?_
  obtain ⟨h1, -, h3, -⟩ := (pos_cons x r).1 h
  rw [tot_cons]
  have : 1 ≤ to1 x := by
    unfold to1
    have ht : 1 ≤ x.times.toNat := by omega
    by_cases e : x.body.isEmpty = true
    · rw [if_pos e]; omega
    · rw [if_neg e]; exact Nat.mul_pos ht (hb h3 (fun k => e (empty_iff.2 k)))
  omega
theorem err_lvs : ∀ (l : List Lp) (d lv : Nat), lv ≤ 2048 → errZ d lv l = 0 → lv + lvsZ l ≤ 2048 := by
  refine nest_one (fun d lv h _ => by rw [lvs_nil]; omega) fun x r hb hr d lv hl h => ?_
  obtain ⟨h1, h2⟩ := err_zero h
  obtain ⟨h3, h4⟩ := one_zero h1
  have h5 := (flw_zero h3).1
  rw [lvs_cons]
  have : lv + lv1 x ≤ 2048 := by
    unfold lv1
    by_cases e : x.body.isEmpty = true
    · rw [if_pos e]; omega
    · rw [if_neg e]; exact hb _ _ hl (h4 (fun k => e (empty_iff.2 k)))
  have := hr d _ this h2
  omega
theorem one_lvs {d lv : Nat} {x : Lp} (h : oneZ d lv x = 0) (hl : lv ≤ 2048) : lv + lv1 x ≤ 2048 := by
  obtain ⟨h3, h4⟩ := one_zero h
  have h5 := (flw_zero h3).1
  unfold lv1
  by_cases e : x.body.isEmpty = true
  · rw [if_pos e]; omega
  · rw [if_neg e]; exact err_lvs _ _ _ hl (h4 (fun k => e (empty_iff.2 k)))
theorem err_deep : ∀ (l : List Lp) (d lv : Nat), errZ d lv l = 0 → dpsZ d l ≤ 16 := by
  refine nest_one (fun d lv _ => by rw [dps_nil]; omega) fun x r hb hr d lv h => ?_
  obtain ⟨h1, h2⟩ := err_zero h
  obtain ⟨h3, h4⟩ := one_zero h1
  rw [dps_cons]
  have h6 := hr d _ h2
  have : dp1 d x ≤ 16 := by
    unfold dp1
    by_cases e : x.body.isEmpty = true
    · rw [if_pos e]; omega
    · rw [if_neg e]
      rw [if_neg e] at h3
      have h5 := ((flw_zero h3).2.1 (by simpa using e)).1
      have := hb _ _ (h4 (fun k => e (empty_iff.2 k)))
      omega
  omega
theorem hds_siz : ∀ (l : List Lp), hdsZ l ≤ sizZ l := by
  refine nest_one (by rw [hds_nil]; omega) fun x r hb hr => ?_
  rw [hds_cons, siz_cons]
  unfold hd1
  split <;> omega
/-- Check's answer. -/
def chkZ (l : List Lp) : Nat := if errZ 0 0 l ≠ 0 then errZ 0 0 l else if 2048 < totZ l then 5 else 0
theorem chk_zero {l : List Lp} (h : chkZ l = 0) : errZ 0 0 l = 0 ∧ totZ l ≤ 2048 := by
  unfold chkZ at h
  by_cases q : errZ 0 0 l ≠ 0
  · rw [if_pos q] at h; exact absurd h q
  · rw [if_neg q] at h
    by_cases k : 2048 < totZ l
    · rw [if_pos k] at h; exact absurd h (by decide)
    · exact ⟨by omega, by omega⟩
/-- Capped numbers. -/
theorem cap_add (a b : Nat) : min (min a 2049 + min b 2049) 2049 = min (a + b) 2049 := by omega
theorem cap_mul {a b : Nat} (ha : 1 ≤ a) (hb : 1 ≤ b) : min (min a 2049 * min b 2049) 2049 = min (a * b) 2049 := by
  by_cases h1 : a ≤ 2049 <;> by_cases h2 : b ≤ 2049
  · rw [Nat.min_eq_left h1, Nat.min_eq_left h2]
  · have e1 : min b 2049 = 2049 := by omega
    rw [Nat.min_eq_left h1, e1]
    have k1 : 2049 ≤ a * 2049 := Nat.le_mul_of_pos_left _ ha
    have k2 : a * 2049 ≤ a * b := Nat.mul_le_mul_left _ (by omega)
    omega
  · have e1 : min a 2049 = 2049 := by omega
    rw [Nat.min_eq_left h2, e1]
    have k1 : 2049 ≤ 2049 * b := Nat.le_mul_of_pos_right _ hb
    have k2 : 2049 * b ≤ a * b := Nat.mul_le_mul_right _ (by omega)
    omega
  · have e1 : min a 2049 = 2049 := by omega
    have e2 : min b 2049 = 2049 := by omega
    rw [e1, e2]
    have k2 : 2049 * 2049 ≤ a * b := Nat.mul_le_mul (by omega) (by omega)
    omega
end Go.Proofs.Ytigaimkflngneaa

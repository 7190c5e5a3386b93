/- Texts of one chain, laid one behind the other. -/
import Derived.Test.YtmeogapffdgjlaaPartLoopsFolds1
import Derived.Test.YtmeogapffdgjlaaPartLoopsFolds10
import Derived.Test.YtmeogapffdgjlaaPartLoopsFolds3
import Derived.Test.YtmeogapffdgjlaaPartLoopsFolds9
import Derived.Laws.Tables
import Derived.Test.YtmeogapffdgjlaaPartLoopsFolds8
import Derived.Deep.LoopGhost
import Derived.Deep.DeepCutAuto
namespace Go.Proofs.Ytmeogapffdgjlaa
open Go.ChangeShapes Go.WideShapes Go.ChangeAt Go.RowKit
/-! ### one behind the other -/
theorem tot_app (l m : List Lp) : totZ (l ++ m) = totZ l + totZ m := by
  induction l with
  | nil => rw [tot_nil]; simp
  | cons x l ih => rw [List.cons_append, tot_cons, tot_cons, ih]; omega
theorem lvs_app (l m : List Lp) : lvsZ (l ++ m) = lvsZ l + lvsZ m := by
  induction l with
  | nil => rw [lvs_nil]; simp
  | cons x l ih => rw [List.cons_append, lvs_cons, lvs_cons, ih]; omega
theorem hds_app (l m : List Lp) : hdsZ (l ++ m) = hdsZ l + hdsZ m := by
  induction l with
  | nil => rw [hds_nil]; simp
  | cons x l ih => rw [List.cons_append, hds_cons, hds_cons, ih]; omega
theorem siz_app (l m : List Lp) : sizZ (l ++ m) = sizZ l + sizZ m := by
  induction l with
  | nil => rw [siz_nil]; simp
  | cons x l ih => rw [List.cons_append, siz_cons, siz_cons, ih]; omega
theorem dps_app (d : Nat) (l m : List Lp) : dpsZ d (l ++ m) = max (dpsZ d l) (dpsZ d m) := by
  induction l with
  | nil => rw [dps_nil]; simp
  | cons x l ih => rw [List.cons_append, dps_cons, dps_cons, ih]; omega
theorem exp_app (l m : List Lp) : expZ (l ++ m) = expZ l ++ expZ m := by
  induction l with
  | nil => rw [exp_nil]; simp
  | cons x l ih => rw [List.cons_append, exp_cons, exp_cons, ih, List.append_assoc]
theorem err_app (d lv : Nat) (l m : List Lp) : errZ d lv (l ++ m) = if errZ d lv l ≠ 0 then errZ d lv l else errZ d (lv + lvsZ l) m := by
  induction l generalizing lv with
  | nil => rw [err_nil_z, lvs_nil]; simp
  | cons x l ih =>
    rw [List.cons_append, err_cons, err_cons, lvs_cons, ih]
    by_cases h : oneZ d lv x ≠ 0
    · simp only [if_pos h]
    · simp only [if_neg h, Nat.add_assoc]
theorem pos_app {l m : List Lp} : posZ (l ++ m) ↔ posZ l ∧ posZ m := by
  induction l with
  | nil => rw [List.nil_append]; exact ⟨fun h => ⟨pos_nil, h⟩, fun h => h.2⟩
  | cons x l ih =>
    rw [List.cons_append, pos_cons, pos_cons, ih]
    constructor
    · rintro ⟨a, b, c, d, e⟩; exact ⟨⟨a, b, c, d⟩, e⟩
    · rintro ⟨⟨a, b, c, d⟩, e⟩; exact ⟨a, b, c, d, e⟩
theorem tot_snoc (l : List Lp) (x : Lp) : totZ (l ++ [x]) = totZ l + to1 x := by rw [tot_app, tot_cons, tot_nil]; omega
theorem lvs_snoc (l : List Lp) (x : Lp) : lvsZ (l ++ [x]) = lvsZ l + lv1 x := by rw [lvs_app, lvs_cons, lvs_nil]; omega
theorem hds_snoc (l : List Lp) (x : Lp) : hdsZ (l ++ [x]) = hdsZ l + hd1 x := by rw [hds_app, hds_cons, hds_nil]; omega
theorem dps_snoc (d : Nat) (l : List Lp) (x : Lp) : dpsZ d (l ++ [x]) = max (dpsZ d l) (dp1 d x) := by rw [dps_app, dps_cons, dps_nil]; omega
theorem siz_mem {l : List Lp} {x : Lp} (h : x ∈ l) : 1 + sizZ x.body ≤ sizZ l := by
  induction l with
  | nil => cases h
  | cons y l ih =>
    rw [siz_cons]
    rcases List.mem_cons.1 h with rfl | h
    · omega
    · have := ih h; omega
theorem len_siz : ∀ (l : List Lp), l.length ≤ sizZ l
  | [] => Nat.zero_le _
  | x :: l => by rw [siz_cons, List.length_cons]; have := len_siz l; omega
/-! ### in memory -/
theorem cell_blk {w w' : World} {b o : Nat} (h : w'.heap[b]? = w.heap[b]?) : w'.cell? ⟨b, o, none⟩ = w.cell? ⟨b, o, none⟩ := by
  unfold World.cell?
  simp only [h]
/-- A nest's loops from a place on; m: with a mark behind each list; F tells the blocks. -/
def NstR (F : Nat → Prop) (m : Bool) (w : World) (b o : Nat) : List Lp → Prop
  | [] => m = true → F b ∧ w.cell? ⟨b, o, none⟩ = some (.int .i64 (-7770777))
  | ⟨t, n, bd⟩ :: r => F b ∧ w.cell? ⟨b, o, none⟩ = some (.int .i64 t) ∧ w.cell? ⟨b, o + 1, none⟩ = some (.int .i64 n) ∧ (∃ (a : Option Addr) (c : Nat), w.cell? ⟨b, o + 2, none⟩ = some (.slice a bd.length c) ∧ (bd = [] ∨ ∃ b' o', a = some ⟨b', o', none⟩ ∧ (m = true → bd.length + 1 ≤ c) ∧ NstR F m w b' o' bd)) ∧ NstR F m w b (o + 3) r
def Nst (F : Nat → Prop) (m : Bool) (w : World) (a : Option Addr) (l : List Lp) : Prop := l = [] ∨ ∃ b o, a = some ⟨b, o, none⟩ ∧ NstR F m w b o l
theorem nst_nil {F : Nat → Prop} {m : Bool} {w : World} {b o : Nat} : NstR F m w b o [] ↔ (m = true → F b ∧ w.cell? ⟨b, o, none⟩ = some (.int .i64 (-7770777))) := by rw [NstR]
theorem nst_cons {F : Nat → Prop} {m : Bool} {w : World} {b o : Nat} {x : Lp} {r : List Lp} : NstR F m w b o (x :: r) ↔ F b ∧ w.cell? ⟨b, o, none⟩ = some (.int .i64 x.times) ∧ w.cell? ⟨b, o + 1, none⟩ = some (.int .i64 x.node) ∧ (∃ (a : Option Addr) (c : Nat), w.cell? ⟨b, o + 2, none⟩ = some (.slice a x.body.length c) ∧ (x.body = [] ∨ ∃ b' o', a = some ⟨b', o', none⟩ ∧ (m = true → x.body.length + 1 ≤ c) ∧ NstR F m w b' o' x.body)) ∧ NstR F m w b (o + 3) r := by
  obtain ⟨t, n, bd⟩ := x
  rw [NstR]
theorem NstR.keep {F : Nat → Prop} {m : Bool} {w w' : World} (hk : ∀ k, F k → w'.heap[k]? = w.heap[k]?) : ∀ (l : List Lp) (b o : Nat), NstR F m w b o l → NstR F m w' b o l := by
  refine nest_one (fun b o h => ?_) fun x r hb hr b o h => ?_
  · rw [nst_nil] at h ⊢
    exact fun e => ⟨(h e).1, by rw [cell_blk (hk _ (h e).1)]; exact (h e).2⟩
  · rw [nst_cons] at h ⊢
    obtain ⟨h1, h2, h3, ⟨a, c, h4, h5⟩, h6⟩ := h
    have e := hk _ h1
    refine ⟨h1, by rw [cell_blk e]; exact h2, by rw [cell_blk e]; exact h3, ⟨a, c, by rw [cell_blk e]; exact h4, ?_⟩, hr _ _ h6⟩
    rcases h5 with h5 | ⟨b', o', e1, e2, h5⟩
    · exact .inl h5
    · exact .inr ⟨b', o', e1, e2, hb _ _ h5⟩
theorem NstR.mono {F G : Nat → Prop} {m : Bool} {w : World} (hk : ∀ k, F k → G k) : ∀ (l : List Lp) (b o : Nat), NstR F m w b o l → NstR G m w b o l := by
  refine nest_one (fun b o h => ?_) fun x r hb hr b o h => ?_
  · rw [nst_nil] at h ⊢
    exact fun e => ⟨hk _ (h e).1, (h e).2⟩
  · rw [nst_cons] at h ⊢
    obtain ⟨h1, h2, h3, ⟨a, c, h4, h5⟩, h6⟩ := h
    refine ⟨hk _ h1, h2, h3, ⟨a, c, h4, ?_⟩, hr _ _ h6⟩
    rcases h5 with h5 | ⟨b', o', e1, e2, h5⟩
    · exact .inl h5
    · exact .inr ⟨b', o', e1, e2, hb _ _ h5⟩
theorem NstR.bare {F : Nat → Prop} {m : Bool} {w : World} : ∀ (l : List Lp) (b o : Nat), NstR F m w b o l → NstR F false w b o l := by
  refine nest_one (fun b o h => ?_) fun x r hb hr b o h => ?_
  · rw [nst_nil]
    exact fun e => by cases e
  · rw [nst_cons] at h ⊢
    obtain ⟨h1, h2, h3, ⟨a, c, h4, h5⟩, h6⟩ := h
    refine ⟨h1, h2, h3, ⟨a, c, h4, ?_⟩, hr _ _ h6⟩
    rcases h5 with h5 | ⟨b', o', e1, e2, h5⟩
    · exact .inl h5
    · exact .inr ⟨b', o', e1, (fun e => by cases e), hb _ _ h5⟩
theorem Nst.keep {F : Nat → Prop} {m : Bool} {w w' : World} {a : Option Addr} {l : List Lp} (h : Nst F m w a l) (hk : ∀ k, F k → w'.heap[k]? = w.heap[k]?) : Nst F m w' a l := by
  rcases h with h | ⟨b, o, e, h⟩
  · exact .inl h
  · exact .inr ⟨b, o, e, NstR.keep hk _ _ _ h⟩
theorem Nst.mono {F G : Nat → Prop} {m : Bool} {w : World} {a : Option Addr} {l : List Lp} (h : Nst F m w a l) (hk : ∀ k, F k → G k) : Nst G m w a l := by
  rcases h with h | ⟨b, o, e, h⟩
  · exact .inl h
  · exact .inr ⟨b, o, e, NstR.mono hk _ _ _ h⟩
theorem Nst.bare {F : Nat → Prop} {m : Bool} {w : World} {a : Option Addr} {l : List Lp} (h : Nst F m w a l) : Nst F false w a l := by
  rcases h with h | ⟨b, o, e, h⟩
  · exact .inl h
  · exact .inr ⟨b, o, e, NstR.bare _ _ _ h⟩
theorem Nst.below {B : Nat} {m : Bool} {w w' : World} {a : Option Addr} {l : List Lp} (h : Nst (· < B) m w a l) (hb : Below B w w') : Nst (· < B) m w' a l := h.keep fun k hk => hb.block k hk
theorem Nst.later {B : Nat} {m : Bool} {w w' : World} {a : Option Addr} {l : List Lp} (h : Nst (· < B) m w a l) (hB : B ≤ w.heap.size) (hb : Below w.heap.size w w') : Nst (· < B) m w' a l := h.below (hb.mono hB)
/-- The first loop of what is left. -/
theorem NstR.hd {F : Nat → Prop} {m : Bool} {w : World} {b o : Nat} {x : Lp} {r : List Lp} (h : NstR F m w b o (x :: r)) : w.cell? ⟨b, o, none⟩ = some (.int .i64 x.times) ∧ w.cell? ⟨b, o + 1, none⟩ = some (.int .i64 x.node) ∧ (∃ (a : Option Addr) (c : Nat), w.cell? ⟨b, o + 2, none⟩ = some (.slice a x.body.length c) ∧ Nst F m w a x.body) := by
  obtain ⟨-, h2, h3, ⟨a, c, h4, h5⟩, -⟩ := nst_cons.1 h
  refine ⟨h2, h3, a, c, h4, ?_⟩
  rcases h5 with h5 | ⟨b', o', e1, -, h5⟩
  · exact .inl h5
  · exact .inr ⟨b', o', e1, h5⟩
theorem NstR.tl {F : Nat → Prop} {m : Bool} {w : World} {b o k : Nat} {x : Lp} {r : List Lp} (h : NstR F m w b (o + k * 3) (x :: r)) : NstR F m w b (o + (k + 1) * 3) r := by
  have := (nst_cons.1 h).2.2.2.2
  rwa [show o + k * 3 + 3 = o + (k + 1) * 3 by omega] at this
theorem flw_room {d lv lv' : Nat} {t n : Int} {leaf : Bool} (h : flwZ d lv t n leaf = 0) (hl : lv' < 2048) : flwZ d lv' t n leaf = 0 := by
  obtain ⟨-, h1, h2, h3⟩ := flw_zero h
  unfold flwZ
  rw [if_neg (by omega), if_neg (fun q => by have := (h1 q.1).1; omega), if_neg (by omega), if_neg (fun q => q.2 (h1 q.1).2), if_neg (fun q => q.2 (h3 q.1))]
theorem one_is {d lv : Nat} {x : Lp} (h : flwZ (if x.body.isEmpty then d else d + 1) lv x.times x.node x.body.isEmpty = 0) : oneZ d lv x = if x.body.isEmpty then 0 else errZ (d + 1) lv x.body := by
  unfold oneZ
  rw [if_neg (fun q => q h)]
theorem one_is' {d lv : Nat} {x : Lp} {c : Nat} (h : flwZ (if x.body.isEmpty then d else d + 1) lv x.times x.node x.body.isEmpty = c) (hc : c ≠ 0) : oneZ d lv x = c := by
  unfold oneZ
  rw [h, if_pos hc]
theorem lv1_pos (x : Lp) : 1 ≤ lv1 x := by
  unfold lv1
  by_cases e : x.body.isEmpty = true
  · rw [if_pos e]; omega
  · rw [if_neg e]; exact lvs_pos (fun k => e (empty_iff.2 k))
theorem err_room : ∀ (l : List Lp) (d lv lv' : Nat), errZ d lv l = 0 → lv' + lvsZ l ≤ 2048 → errZ d lv' l = 0 := by
  refine nest_one (fun d lv lv' _ _ => err_nil_z _ _) fun x r hb hr d lv lv' h hl => ?_
  obtain ⟨h1, h2⟩ := err_zero h
  obtain ⟨h3, h4⟩ := one_zero h1
  rw [lvs_cons] at hl
  have hp := lv1_pos x
  have e1 : oneZ d lv' x = 0 := by
    rw [one_is (flw_room h3 (by omega))]
    by_cases e : x.body.isEmpty = true
    · rw [if_pos e]
    · rw [if_neg e]
      refine hb _ lv _ (h4 (fun k => e (empty_iff.2 k))) ?_
      have : lv1 x = lvsZ x.body := by unfold lv1; rw [if_neg e]
      omega
  rw [err_cons, e1, if_neg (by decide)]
  exact hr d _ _ h2 (by omega)
theorem chk_is {l : List Lp} (h : errZ 0 0 l = 0) (ht : totZ l ≤ 2048) : chkZ l = 0 := by
  unfold chkZ
  rw [h, if_neg (by decide), if_neg (by omega)]
theorem flw_leafQ {d d' lv : Nat} {t n : Int} : flwZ d lv t n true = flwZ d' lv t n true := by
  unfold flwZ
  simp
theorem flw_blockQ {d d' lv : Nat} {t n : Int} (h : flwZ d lv t n false = 0) : flwZ d' lv t n false = if 16 < d' then 161 else 0 := by
  obtain ⟨h0, h1, h2, -⟩ := flw_zero h
  unfold flwZ
  rw [if_neg (by omega)]
  by_cases q : 16 < d'
  · rw [if_pos ⟨rfl, q⟩, if_pos q]
  · rw [if_neg (fun k => q k.2), if_neg (by omega), if_neg (fun k => k.2 (h1 rfl).2), if_neg (fun k => by cases k.1), if_neg q]
theorem err_down : ∀ (l : List Lp) (d lv : Nat), errZ d lv l = 0 → errZ (d + 1) lv l = if depZ l ≠ 0 ∧ 16 < d + 1 + depZ l then 161 else 0 := by
  refine nest_one (fun d lv _ => by rw [err_nil_z, dep_nil, if_neg (fun k => k.1 rfl)]) fun x r hb hr d lv h => ?_
  obtain ⟨h1, h2⟩ := err_zero h
  obtain ⟨h3, h4⟩ := one_zero h1
  rw [err_cons, dep_cons]
  by_cases e : x.body.isEmpty = true
  · have e1 : oneZ (d + 1) lv x = 0 := by
      rw [e, if_pos rfl] at h3
      have : flwZ (if x.body.isEmpty then d + 1 else d + 1 + 1) lv x.times x.node x.body.isEmpty = 0 := by rw [e, if_pos rfl, flw_leafQ (d' := d)]; exact h3
      rw [one_is this, if_pos e]
    rw [e1, if_neg (by decide), hr d _ h2, if_pos e, Nat.zero_max]
  · have hf : x.body.isEmpty = false := by simpa using e
    rw [if_neg e, hf] at h3
    have hq : flwZ (if x.body.isEmpty then d + 1 else d + 1 + 1) lv x.times x.node x.body.isEmpty = if 16 < d + 2 then 161 else 0 := by rw [if_neg e, hf, flw_blockQ h3]
    rw [if_neg e]
    by_cases k : 16 < d + 2
    · rw [if_pos k] at hq
      rw [one_is' hq (by decide), if_pos (by decide), if_pos ⟨by omega, by omega⟩]
    · rw [if_neg k] at hq
      have hbd := hb (d + 1) lv (h4 (fun q => e (empty_iff.2 q)))
      have e1 : oneZ (d + 1) lv x = errZ (d + 1 + 1) lv x.body := by rw [one_is hq, if_neg e]
      rw [e1, hbd]
      by_cases c : depZ x.body ≠ 0 ∧ 16 < d + 1 + 1 + depZ x.body
      · rw [if_pos c, if_pos (by decide), if_pos ⟨by omega, by omega⟩]
      · rw [if_neg c, if_neg (by decide), hr d _ h2]
        by_cases c2 : depZ r ≠ 0 ∧ 16 < d + 1 + depZ r
        · rw [if_pos c2, if_pos ⟨by omega, by omega⟩]
        · rw [if_neg c2, if_neg]
          rintro ⟨-, q⟩
          have : 16 < d + 1 + (depZ x.body + 1) ∨ 16 < d + 1 + depZ r := by omega
          rcases this with q | q
          · exact c ⟨by omega, by omega⟩
          · exact c2 ⟨by omega, q⟩
end Go.Proofs.Ytmeogapffdgjlaa

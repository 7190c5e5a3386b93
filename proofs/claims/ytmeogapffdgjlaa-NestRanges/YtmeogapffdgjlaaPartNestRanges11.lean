/- Texts of one chain, laid one behind the other. -/
import Derived.Test.YtmeogapffdgjlaaPartNestRanges1
import Derived.Test.YtmeogapffdgjlaaPartNestRanges10
import Derived.Test.YtmeogapffdgjlaaPartNestRanges3
import Derived.Test.YtmeogapffdgjlaaPartNestRanges9
import Derived.Laws.Tables
import Derived.Test.YtmeogapffdgjlaaPartNestRanges8
import Derived.Deep.LoopGhost
import Derived.Deep.DeepCutAuto
namespace Go.Proofs.Ytmeogapffdgjlaa
open Go.ChangeShapes Go.WideShapes Go.ChangeAt Go.RowKit
/-! ### one behind the other -/
theorem tot_app (l m : List Lp) : totZ (l ++ m) = totZ l + totZ m := by
  induction l with
  | nil => rw [tot_nil]; simp
  | cons x l ih => rw [List.cons_append, tot_cons, tot_cons, ih]; omega
theorem lvs_app (l m : List Lp) : lvsZ (l ++ m) = lvsZ l + lvsZ m := by
  induction l with
  | nil => rw [lvs_nil]; simp
  | cons x l ih => rw [List.cons_append, lvs_cons, lvs_cons, ih]; omega
theorem hds_app (l m : List Lp) : hdsZ (l ++ m) = hdsZ l + hdsZ m := by
  induction l with
  | nil => rw [hds_nil]; simp
  | cons x l ih => rw [List.cons_append, hds_cons, hds_cons, ih]; omega
theorem siz_app (l m : List Lp) : sizZ (l ++ m) = sizZ l + sizZ m := by
  induction l with
  | nil => rw [siz_nil]; simp
  | cons x l ih => rw [List.cons_append, siz_cons, siz_cons, ih]; omega
theorem dps_app (d : Nat) (l m : List Lp) : dpsZ d (l ++ m) = max (dpsZ d l) (dpsZ d m) := by
  induction l with
  | nil => rw [dps_nil]; simp
  | cons x l ih => rw [List.cons_append, dps_cons, dps_cons, ih]; omega
theorem exp_app (l m : List Lp) : expZ (l ++ m) = expZ l ++ expZ m := by
  induction l with
  | nil => rw [exp_nil]; simp
  | cons x l ih => rw [List.cons_append, exp_cons, exp_cons, ih, List.append_assoc]
theorem pos_app {l m : List Lp} : posZ (l ++ m) ↔ posZ l ∧ posZ m := by
  induction l with
  | nil => rw [List.nil_append]; exact ⟨fun h => ⟨pos_nil, h⟩, fun h => h.2⟩
  | cons x l ih =>
    rw [List.cons_append, pos_cons, pos_cons, ih]
    constructor
    · rintro ⟨a, b, c, d, e⟩; exact ⟨⟨a, b, c, d⟩, e⟩
    · rintro ⟨⟨a, b, c, d⟩, e⟩; exact ⟨a, b, c, d, e⟩
theorem tot_snoc (l : List Lp) (x : Lp) : totZ (l ++ [x]) = totZ l + to1 x := by rw [tot_app, tot_cons, tot_nil]; omega
theorem lvs_snoc (l : List Lp) (x : Lp) : lvsZ (l ++ [x]) = lvsZ l + lv1 x := by rw [lvs_app, lvs_cons, lvs_nil]; omega
theorem hds_snoc (l : List Lp) (x : Lp) : hdsZ (l ++ [x]) = hdsZ l + hd1 x := by rw [hds_app, hds_cons, hds_nil]; omega
theorem dps_snoc (d : Nat) (l : List Lp) (x : Lp) : dpsZ d (l ++ [x]) = max (dpsZ d l) (dp1 d x) := by rw [dps_app, dps_cons, dps_nil]; omega
theorem exp_snoc (l : List Lp) (x : Lp) : expZ (l ++ [x]) = expZ l ++ ex1 x := by rw [exp_app, exp_cons, exp_nil]; simp
theorem siz_mem {l : List Lp} {x : Lp} (h : x ∈ l) : 1 + sizZ x.body ≤ sizZ l := by
  induction l with
  | nil => cases h
  | cons y l ih =>
    rw [siz_cons]
    rcases List.mem_cons.1 h with rfl | h
    · omega
    · have := ih h; omega
theorem len_siz : ∀ (l : List Lp), l.length ≤ sizZ l
  | [] => Nat.zero_le _
  | x :: l => by rw [siz_cons, List.length_cons]; have := len_siz l; omega
/-! ### in memory -/
theorem cell_blk {w w' : World} {b o : Nat} (h : w'.heap[b]? = w.heap[b]?) : w'.cell? ⟨b, o, none⟩ = w.cell? ⟨b, o, none⟩ := by
  unfold World.cell?
  simp only [h]
/-- A nest's loops from a place on; m: with a mark behind each list; F tells the blocks. -/
def NstR (F : Nat → Prop) (m : Bool) (w : World) (b o : Nat) : List Lp → Prop
  | [] => m = true → F b ∧ w.cell? ⟨b, o, none⟩ = some (.int .i64 (-7770777))
  | ⟨t, n, bd⟩ :: r => F b ∧ w.cell? ⟨b, o, none⟩ = some (.int .i64 t) ∧ w.cell? ⟨b, o + 1, none⟩ = some (.int .i64 n) ∧ (∃ (a : Option Addr) (c : Nat), w.cell? ⟨b, o + 2, none⟩ = some (.slice a bd.length c) ∧ (bd = [] ∨ ∃ b' o', a = some ⟨b', o', none⟩ ∧ (m = true → bd.length + 1 ≤ c) ∧ NstR F m w b' o' bd)) ∧ NstR F m w b (o + 3) r
def Nst (F : Nat → Prop) (m : Bool) (w : World) (a : Option Addr) (l : List Lp) : Prop := l = [] ∨ ∃ b o, a = some ⟨b, o, none⟩ ∧ NstR F m w b o l
theorem nst_nil {F : Nat → Prop} {m : Bool} {w : World} {b o : Nat} : NstR F m w b o [] ↔ (m = true → F b ∧ w.cell? ⟨b, o, none⟩ = some (.int .i64 (-7770777))) := by rw [NstR]
theorem nst_cons {F : Nat → Prop} {m : Bool} {w : World} {b o : Nat} {x : Lp} {r : List Lp} : NstR F m w b o (x :: r) ↔ F b ∧ w.cell? ⟨b, o, none⟩ = some (.int .i64 x.times) ∧ w.cell? ⟨b, o + 1, none⟩ = some (.int .i64 x.node) ∧ (∃ (a : Option Addr) (c : Nat), w.cell? ⟨b, o + 2, none⟩ = some (.slice a x.body.length c) ∧ (x.body = [] ∨ ∃ b' o', a = some ⟨b', o', none⟩ ∧ (m = true → x.body.length + 1 ≤ c) ∧ NstR F m w b' o' x.body)) ∧ NstR F m w b (o + 3) r := by
  obtain ⟨t, n, bd⟩ := x
  rw [NstR]
theorem NstR.keep {F : Nat → Prop} {m : Bool} {w w' : World} (hk : ∀ k, F k → w'.heap[k]? = w.heap[k]?) : ∀ (l : List Lp) (b o : Nat), NstR F m w b o l → NstR F m w' b o l := by
  refine nest_one (fun b o h => ?_) fun x r hb hr b o h => ?_
  · rw [nst_nil] at h ⊢
    exact fun e => ⟨(h e).1, by rw [cell_blk (hk _ (h e).1)]; exact (h e).2⟩
  · rw [nst_cons] at h ⊢
    obtain ⟨h1, h2, h3, ⟨a, c, h4, h5⟩, h6⟩ := h
    have e := hk _ h1
    refine ⟨h1, by rw [cell_blk e]; exact h2, by rw [cell_blk e]; exact h3, ⟨a, c, by rw [cell_blk e]; exact h4, ?_⟩, hr _ _ h6⟩
    rcases h5 with h5 | ⟨b', o', e1, e2, h5⟩
    · exact .inl h5
    · exact .inr ⟨b', o', e1, e2, hb _ _ h5⟩
theorem NstR.mono {F G : Nat → Prop} {m : Bool} {w : World} (hk : ∀ k, F k → G k) : ∀ (l : List Lp) (b o : Nat), NstR F m w b o l → NstR G m w b o l := by
  refine nest_one (fun b o h => ?_) fun x r hb hr b o h => ?_
  · rw [nst_nil] at h ⊢
    exact fun e => ⟨hk _ (h e).1, (h e).2⟩
  · rw [nst_cons] at h ⊢
    obtain ⟨h1, h2, h3, ⟨a, c, h4, h5⟩, h6⟩ := h
    refine ⟨hk _ h1, h2, h3, ⟨a, c, h4, ?_⟩, hr _ _ h6⟩
    rcases h5 with h5 | ⟨b', o', e1, e2, h5⟩
    · exact .inl h5
    · exact .inr ⟨b', o', e1, e2, hb _ _ h5⟩
theorem NstR.bare {F : Nat → Prop} {m : Bool} {w : World} : ∀ (l : List Lp) (b o : Nat), NstR F m w b o l → NstR F false w b o l := by
  refine nest_one (fun b o h => ?_) fun x r hb hr b o h => ?_
  · rw [nst_nil]
    exact fun e => by cases e
  · rw [nst_cons] at h ⊢
    obtain ⟨h1, h2, h3, ⟨a, c, h4, h5⟩, h6⟩ := h
    refine ⟨h1, h2, h3, ⟨a, c, h4, ?_⟩, hr _ _ h6⟩
    rcases h5 with h5 | ⟨b', o', e1, e2, h5⟩
    · exact .inl h5
    · exact .inr ⟨b', o', e1, (fun e => by cases e), hb _ _ h5⟩
theorem Nst.keep {F : Nat → Prop} {m : Bool} {w w' : World} {a : Option Addr} {l : List Lp} (h : Nst F m w a l) (hk : ∀ k, F k → w'.heap[k]? = w.heap[k]?) : Nst F m w' a l := by
  rcases h with h | ⟨b, o, e, h⟩
  · exact .inl h
  · exact .inr ⟨b, o, e, NstR.keep hk _ _ _ h⟩
theorem Nst.mono {F G : Nat → Prop} {m : Bool} {w : World} {a : Option Addr} {l : List Lp} (h : Nst F m w a l) (hk : ∀ k, F k → G k) : Nst G m w a l := by
  rcases h with h | ⟨b, o, e, h⟩
  · exact .inl h
  · exact .inr ⟨b, o, e, NstR.mono hk _ _ _ h⟩
theorem Nst.bare {F : Nat → Prop} {m : Bool} {w : World} {a : Option Addr} {l : List Lp} (h : Nst F m w a l) : Nst F false w a l := by
  rcases h with h | ⟨b, o, e, h⟩
  · exact .inl h
  · exact .inr ⟨b, o, e, NstR.bare _ _ _ h⟩
theorem Nst.below {B : Nat} {m : Bool} {w w' : World} {a : Option Addr} {l : List Lp} (h : Nst (· < B) m w a l) (hb : Below B w w') : Nst (· < B) m w' a l := h.keep fun k hk => hb.block k hk
theorem Nst.later {B : Nat} {m : Bool} {w w' : World} {a : Option Addr} {l : List Lp} (h : Nst (· < B) m w a l) (hB : B ≤ w.heap.size) (hb : Below w.heap.size w w') : Nst (· < B) m w' a l := h.below (hb.mono hB)
/-- The first loop of what is left. -/
theorem NstR.hd {F : Nat → Prop} {m : Bool} {w : World} {b o : Nat} {x : Lp} {r : List Lp} (h : NstR F m w b o (x :: r)) : w.cell? ⟨b, o, none⟩ = some (.int .i64 x.times) ∧ w.cell? ⟨b, o + 1, none⟩ = some (.int .i64 x.node) ∧ (∃ (a : Option Addr) (c : Nat), w.cell? ⟨b, o + 2, none⟩ = some (.slice a x.body.length c) ∧ Nst F m w a x.body) := by
  obtain ⟨-, h2, h3, ⟨a, c, h4, h5⟩, -⟩ := nst_cons.1 h
  refine ⟨h2, h3, a, c, h4, ?_⟩
  rcases h5 with h5 | ⟨b', o', e1, -, h5⟩
  · exact .inl h5
  · exact .inr ⟨b', o', e1, h5⟩
theorem NstR.tl {F : Nat → Prop} {m : Bool} {w : World} {b o k : Nat} {x : Lp} {r : List Lp} (h : NstR F m w b (o + k * 3) (x :: r)) : NstR F m w b (o + (k + 1) * 3) r := by
  have := (nst_cons.1 h).2.2.2.2
  rwa [show o + k * 3 + 3 = o + (k + 1) * 3 by omega] at this
end Go.Proofs.Ytmeogapffdgjlaa

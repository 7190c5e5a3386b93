/- Texts of one chain, laid one behind the other. -/
import Derived.Test.YtmeogapffdgjlabPartLoopsNames1
import Derived.Test.YtmeogapffdgjlabPartLoopsNames15
import Derived.Maps.OwnSet
import Derived.DeepKeys4
import Derived.Test.YtmeogapffdgjlabPartLoopsNames13
namespace Go.Proofs.Ytmeogapffdgjlab
open Go.ChangeShapes Go.WideShapes Go.ChangeAt Go.RowKit
def kvM (q : List Int) : Value := .agg (q.map (Value.int .i64)).toArray
def heldM (v : Value) : Option (DataW Value × List MemPlace) := some (.held v, [])
def InM (v : Int) : Prop := -9223372036854775808 ≤ v ∧ v ≤ 9223372036854775807
theorem Try.laidOutQ : laidOutB Try.prog = true := by kernel_rfl
theorem rowLook : 65 < Try.prog.types.size := of_decide_eq_true (by kernel_rfl)
theorem ktaLook : Try.prog.keyTypeAt 2 65 = true := by kernel_rfl
theorem keyedLook : Maps.Keyed Try.prog 65 := Maps.Keyed.of_law (deep_law_laid Try.laidOutQ (m := 2) (by decide) rowLook ktaLook (by simp only [Try.underlying65]))
theorem rowLink : 71 < Try.prog.types.size := of_decide_eq_true (by kernel_rfl)
theorem ktaLink : Try.prog.keyTypeAt 2 71 = true := by kernel_rfl
theorem keyedLink : Maps.Keyed Try.prog 71 := Maps.Keyed.of_law (deep_law_laid Try.laidOutQ (m := 2) (by decide) rowLink ktaLink (by simp only [Try.underlying71]))
theorem cells3Q : Try.prog.cellsOf 3 = 1 := by kernel_rfl
theorem cellsLook : Try.prog.cellsOf 65 = 3 := by kernel_rfl
theorem cellsLink : Try.prog.cellsOf 71 = 2 := by kernel_rfl
theorem ktLook : Try.prog.keyType 65 = true := by kernel_rfl
theorem ktLink : Try.prog.keyType 71 = true := by kernel_rfl
theorem keyLook {a b c : Int} (ha : InM a) (hb : InM b) (hc : InM c) : keyOf Try.prog 65 (kvM [a, b, c]) = some (.string (keyBytes [.int .i64 a, .int .i64 b, .int .i64 c])) := by
  obtain ⟨m, hm⟩ : ∃ m, Try.prog.types.size = m + 1 := ⟨Try.prog.types.size - 1, by have := rowLook; omega⟩
  have wa := WalkArith.wf_i64 ha
  have wb := WalkArith.wf_i64 hb
  have wc := WalkArith.wf_i64 hc
  unfold keyOf kvM
  simp only [Try.underlying65]
  rw [if_pos (by simp [ktLook, Value.formed, Try.underlying65, cellsLook]), hm]
  unfold Program.keyLits
  simp only [Try.underlying65, Value.cells]
  rw [if_pos (by rw [cellsLook]; exact ⟨rfl, by simp⟩)]
  simp [Program.keyLits, Try.underlying3, cells3Q, wa, wb, wc]
theorem keyLink {a b : Int} (ha : InM a) (hb : InM b) : keyOf Try.prog 71 (kvM [a, b]) = some (.string (keyBytes [.int .i64 a, .int .i64 b])) := by
  obtain ⟨m, hm⟩ : ∃ m, Try.prog.types.size = m + 1 := ⟨Try.prog.types.size - 1, by have := rowLook; omega⟩
  have wa := WalkArith.wf_i64 ha
  have wb := WalkArith.wf_i64 hb
  unfold keyOf kvM
  simp only [Try.underlying71]
  rw [if_pos (by simp [ktLink, Value.formed, Try.underlying71, cellsLink]), hm]
  unfold Program.keyLits
  simp only [Try.underlying71, Value.cells]
  rw [if_pos (by rw [cellsLink]; exact ⟨rfl, by simp⟩)]
  simp [Program.keyLits, Try.underlying3, cells3Q, wa, wb]
theorem kv_inj {q r : List Int} (h : kvM q = kvM r) : q = r := by
  unfold kvM at h
  have h1 : q.map (Value.int .i64) = r.map (Value.int .i64) := by simpa using h
  exact (List.map_inj_right (fun a b e => by cases e; rfl)).1 h1
/-- A map that tells each of these keys its place, counted from off. -/
def MapI (K : TypeId) (off : Nat) (w : World) (m : Nat) (Ks : List (List Int)) : Prop :=
  ∃ (s : Nat) (D : DataW Value), w.ownsMap Try.prog K heldM m s D ∧ s ≤ Ks.length ∧ Maps.size D = Ks.length ∧ ∀ (q : List Int) (l : Lit), keyOf Try.prog K (kvM q) = some l → Maps.has D l = decide (q ∈ Ks) ∧ D.atKey l (.held (.int .i64 0)) = .held (.int .i64 (if q ∈ Ks then ((idxM Ks q + off : Nat) : Int) else 0))
theorem mapI_new (K : TypeId) (off : Nat) (w : World) : MapI K off (w.alloc (.map #[] 0)) w.heap.size [] := ⟨0, .map [], World.ownsMap_made _ _ _ _, Nat.le_refl _, rfl, fun q l _ => ⟨by simp; rfl, by simp; rfl⟩⟩
theorem MapI.lt {K : TypeId} {off : Nat} {w : World} {m : Nat} {Ks : List (List Int)} (h : MapI K off w m Ks) : m < w.heap.size := by
  obtain ⟨n, D, h1, -⟩ := h
  exact h1.lt
theorem MapI.keep {K : TypeId} {off : Nat} {w w' : World} {m : Nat} {Ks : List (List Int)} (h : MapI K off w m Ks) (hb : w'.heap[m]? = w.heap[m]?) : MapI K off w' m Ks := by
  obtain ⟨n, D, ⟨es, clock, h1, h2⟩, h3⟩ := h
  exact ⟨n, D, ⟨es, clock, hb.trans h1, h2⟩, h3⟩
theorem MapI.is {K : TypeId} {off : Nat} {w : World} {m : Nat} {Ks : List (List Int)} (h : MapI K off w m Ks) : ∃ es clock, w.heap[m]? = some (.map es clock) := by
  obtain ⟨n, D, ⟨es, clock, h1, h2⟩, h3⟩ := h
  exact ⟨es, clock, h1⟩
theorem zero3Q (w : World) : (zeroValue 3).run Try.prog w = .ok (.int .i64 0) w := by kernel_rfl
theorem MapI.look_ok {K T : TypeId} {off : Nat} {w : World} {m : Nat} {Ks : List (List Int)} (h : MapI K off w m Ks) (hK : Maps.Keyed Try.prog K) (hT : Try.prog.underlying T = some (.map K 3)) {q : List Int} {l : Lit} (hl : keyOf Try.prog K (kvM q) = some l) : (Instr.lookup T (.map (some m)) (kvM q) true).run Try.prog w = .ok (.tuple #[.int .i64 (if q ∈ Ks then ((idxM Ks q + off : Nat) : Int) else 0), .bool (decide (q ∈ Ks))]) w := by
  obtain ⟨n, D, h1, -, -, h4⟩ := h
  obtain ⟨x, ps, hrun, hx⟩ := h1.look_ok hK hT (zero3Q w) (zd := .held (.int .i64 0)) (zp := []) rfl hl
  rw [(h4 q l hl).2] at hx
  have e : x = .int .i64 (if q ∈ Ks then ((idxM Ks q + off : Nat) : Int) else 0) := DataW.held.inj (congrArg Prod.fst (Option.some.inj hx))
  rw [hrun, e, (h4 q l hl).1]
theorem MapI.look {K T : TypeId} {off : Nat} {w : World} {m : Nat} {Ks : List (List Int)} (h : MapI K off w m Ks) (hK : Maps.Keyed Try.prog K) (hT : Try.prog.underlying T = some (.map K 3)) {q : List Int} {l : Lit} (hl : keyOf Try.prog K (kvM q) = some l) : (Instr.lookup T (.map (some m)) (kvM q) false).run Try.prog w = .ok (.int .i64 (if q ∈ Ks then ((idxM Ks q + off : Nat) : Int) else 0)) w := by
  obtain ⟨n, D, h1, -, -, h4⟩ := h
  obtain ⟨x, ps, hrun, hx⟩ := h1.lookup hK hT (zero3Q w) (zd := .held (.int .i64 0)) (zp := []) rfl hl
  rw [(h4 q l hl).2] at hx
  have e : x = .int .i64 (if q ∈ Ks then ((idxM Ks q + off : Nat) : Int) else 0) := DataW.held.inj (congrArg Prod.fst (Option.some.inj hx))
  rw [hrun, e]
theorem MapI.len {K T : TypeId} {off : Nat} {w : World} {m : Nat} {Ks : List (List Int)} (h : MapI K off w m Ks) (hT : Try.prog.underlying T = some (.map K 3)) (ty : TypeId) : (Builtin.len_ #[T] ty #[.map (some m)]).run Try.prog w = .ok (.int .i64 (Ks.length : Int)) w := by
  obtain ⟨n, D, h1, -, h3, -⟩ := h
  rw [h1.len hT ty, h3]
/-- A key is put in. -/
theorem MapI.put {K T : TypeId} {off : Nat} {w : World} {m : Nat} {Ks : List (List Int)} (h : MapI K off w m Ks) (hK : Maps.Keyed Try.prog K) (hT : Try.prog.underlying T = some (.map K 3)) {q : List Int} {l : Lit} (hl : keyOf Try.prog K (kvM q) = some l) (hn : q ∉ Ks) (hs : Ks.length ≤ 4611686018427387904) :
    ∃ w', (Instr.mapUpdate T (.map (some m)) (kvM q) (.int .i64 ((Ks.length + off : Nat) : Int))).run Try.prog w = .ok () w' ∧ MapI K off w' m (Ks ++ [q]) ∧ But m w w' := by
  obtain ⟨n, D, h1, h2, h3, h4⟩ := h
  obtain ⟨w', hrun, hown, hg⟩ := h1.update hK hT (by unfold maxLen; omega) hl (d := .held (.int .i64 ((Ks.length + off : Nat) : Int))) (ps := []) (val := .int .i64 ((Ks.length + off : Nat) : Int)) rfl
  have hno : Maps.has D l = false := by rw [(h4 q l hl).1]; simpa using hn
  refine ⟨w', hrun, ⟨n + 1, _, hown, by simp; exact h2, ?_, fun r k hk => ?_⟩, ⟨hg.os, hg.tape, hg.output, hg.size, fun k hk hne => hg.block k hk (by simpa using hne)⟩⟩
  · rw [Maps.size_put (h1.tidy hK), hno, h3]
    simp
  · by_cases e : r = q
    · subst e
      rw [hl] at hk
      cases hk
      rw [Maps.has_put_same h1.isMap (hK.key hl), Maps.atKey_put_same h1.isMap (hK.key hl), if_pos (List.mem_append_right _ (List.mem_singleton.2 rfl)), idxM_snoc hn]
      exact ⟨by simp, rfl⟩
    · have hne : k ≠ l := fun e2 => by
        subst e2
        exact e (kv_inj (hK.inj hk hl))
      have hmem : (r ∈ Ks ++ [q]) ↔ r ∈ Ks := by simp [e]
      rw [Maps.has_put_other hne, Maps.atKey_put_other hne, (h4 r k hk).1, (h4 r k hk).2]
      by_cases hr : r ∈ Ks
      · rw [if_pos hr, if_pos (hmem.2 hr), idxM_other hr]
        exact ⟨by simp [hr], rfl⟩
      · rw [if_neg hr, if_neg (fun k => hr (hmem.1 k))]
        exact ⟨by simp [hr, e], rfl⟩
end Go.Proofs.Ytmeogapffdgjlab
namespace Go.Proofs.Ytmeogapffdgjlab
/-- Whether two nests are the same. -/
def samZ : List Lp → List Lp → Bool
  | [], [] => true
  | ⟨t, n, b⟩ :: l, ⟨t', n', b'⟩ :: l' => decide (t = t') && (decide (n = n') && (samZ b b' && samZ l l'))
  | _, _ => false
theorem sam_iff : ∀ (l m : List Lp), samZ l m = true ↔ l = m := by
  refine nest_two ?_ ?_
  · intro m
    cases m <;> simp [samZ]
  · intro t n b r hb hr m
    cases m with
    | nil => simp [samZ]
    | cons y m =>
      obtain ⟨t', n', b'⟩ := y
      rw [samZ]
      simp only [Bool.and_eq_true, decide_eq_true_eq, hb, hr, List.cons.injEq, Lp.mk.injEq]
      constructor
      · rintro ⟨rfl, rfl, rfl, rfl⟩; exact ⟨⟨rfl, rfl, rfl⟩, rfl⟩
      · rintro ⟨⟨rfl, rfl, rfl⟩, rfl⟩; exact ⟨rfl, rfl, rfl, rfl⟩
/-- How many places from the first on are like those a width further. -/
def cntG {α : Type} (eq : α → α → Bool) : List α → List α → Nat
  | x :: l, y :: m => if eq x y then cntG eq l m + 1 else 0
  | _, _ => 0
def eqZ (x y : Lp) : Bool := samZ [x] [y]
theorem eqZ_iff (x y : Lp) : eqZ x y = true ↔ x = y := by unfold eqZ; rw [sam_iff]; simp
def eqI (x y : Int) : Bool := decide (x = y)
/-- Alike, from the first on: as many loops as a width and what is like it. -/
def alkZ (w : Nat) (l : List Lp) : Nat := w + cntG eqZ l (l.drop w)
def alkN (w : Nat) (ns : List Int) : Nat := w + cntG eqI ns (ns.drop w)
theorem cntG_rp {V : List Lp} (hV : V.Nodup) : ∀ {ns ms : List Int} {l m : List Lp}, RpZ V ns l → RpZ V ms m → cntG eqI ns ms = cntG eqZ l m
  | [], _, [], _, _, _ => by rw [cntG, cntG] <;> intros <;> simp_all
  | _ :: _, [], _ :: _, [], _, _ => by rw [cntG, cntG] <;> intros <;> simp_all
  | x :: ns, y :: ms, z :: l, u :: m, ⟨⟨k, e, h⟩, h2⟩, ⟨⟨j, f, g⟩, g2⟩ => by
    rw [cntG, cntG, cntG_rp hV h2 g2]
    have : eqI x y = eqZ z u := by
      rw [Bool.eq_iff_iff, eqZ_iff]
      unfold eqI
      rw [decide_eq_true_eq]
      constructor
      · intro q
        have : k = j := by omega
        subst this
        rw [h] at g
        exact Option.some.inj g
      · rintro rfl
        have := get_one hV h g
        omega
    rw [this]
  | [], _, _ :: _, _, h, _ => h.elim
  | _ :: _, _, [], _, h, _ => h.elim
  | _ :: _, [], _ :: _, _ :: _, _, h => h.elim
  | _ :: _, _ :: _, _ :: _, [], _, h => h.elim
theorem alk_rp {V : List Lp} (hV : V.Nodup) {w : Nat} {ns : List Int} {l : List Lp} (h : RpZ V ns l) : alkN w ns = alkZ w l := by
  unfold alkN alkZ
  rw [cntG_rp hV h (h.drop w)]
theorem cntG_le {α : Type} {eq : α → α → Bool} : ∀ (l m : List α), cntG eq l m ≤ m.length
  | [], m => by cases m <;> exact Nat.zero_le _
  | _ :: _, [] => Nat.zero_le _
  | x :: l, y :: m => by
    rw [cntG]
    have := cntG_le (eq := eq) l m
    rw [List.length_cons]
    split <;> omega
theorem cntG_at {α : Type} {eq : α → α → Bool} : ∀ (l m : List α) (j : Nat) (x y : α), j < cntG eq l m → l[j]? = some x → m[j]? = some y → eq x y = true
  | [], _, _, _, _, h, _, _ => by rw [cntG] at h; exact absurd h (Nat.not_lt_zero _); intros; simp_all
  | _ :: _, [], _, _, _, h, _, _ => by rw [cntG] at h; exact absurd h (Nat.not_lt_zero _); intros; simp_all
  | a :: l, b :: m, j, x, y, h, hx, hy => by
    rw [cntG] at h
    by_cases e : eq a b = true
    · rw [if_pos e] at h
      cases j with
      | zero => cases (Option.some.inj hx); cases (Option.some.inj hy); exact e
      | succ j => exact cntG_at l m j x y (by omega) hx hy
    · rw [if_neg e] at h; exact absurd h (Nat.not_lt_zero _)
/-- How many groups are the same. -/
def grpZ (w : Nat) (l : List Lp) : Nat := alkZ w l / w
theorem alk_le (w : Nat) (l : List Lp) : alkZ w l ≤ w + (l.length - w) := by
  unfold alkZ
  have := cntG_le (eq := eqZ) l (l.drop w)
  rw [List.length_drop] at this
  omega
theorem grp_le {w : Nat} {l : List Lp} (h : 2 ≤ grpZ w l) : grpZ w l * w ≤ l.length := by
  have h1 : grpZ w l * w ≤ alkZ w l := Nat.div_mul_le_self _ _
  have h2 := alk_le w l
  by_cases hw : w ≤ l.length
  · omega
  · have h3 : alkZ w l ≤ w := by omega
    have h4 : 2 * w ≤ grpZ w l * w := Nat.mul_le_mul_right _ h
    by_cases h0 : w = 0
    · subst h0; omega
    · omega
/-- The first groups are all the first one. -/
theorem grp_get {w : Nat} (hw : 1 ≤ w) {l : List Lp} {m : Nat} (hm : m ≤ grpZ w l) (h2 : m * w ≤ l.length) : ∀ j, j < m * w → l[j]? = (l.take w)[j % w]? := by
  have h1 : m * w ≤ alkZ w l := Nat.le_trans (Nat.mul_le_mul_right _ hm) (Nat.div_mul_le_self _ _)
  intro j
  induction j using Nat.strongRecOn with
  | _ j ih =>
    intro hj
    by_cases hjw : j < w
    · rw [Nat.mod_eq_of_lt hjw, List.getElem?_take, if_pos hjw]
    · have h3 := ih (j - w) (by omega) (by omega)
      have hl : j - w < l.length := by omega
      have hl2 : j < l.length := by omega
      have h4 := cntG_at (eq := eqZ) l (l.drop w) (j - w) l[j - w] l[j] (by unfold alkZ at h1; omega) (List.getElem?_eq_getElem hl) (by rw [List.getElem?_drop, show w + (j - w) = j by omega]; exact List.getElem?_eq_getElem hl2)
      rw [eqZ_iff] at h4
      rw [List.getElem?_eq_getElem hl2, ← h4, ← List.getElem?_eq_getElem hl, h3, ← Nat.mod_eq_sub_mod (by omega)]
/-- A row folded in one pass. -/
def psF (w : Nat) : Nat → List Lp → List Lp
  | 0, _ => []
  | _ + 1, [] => []
  | f + 1, x :: l => if grpZ w (x :: l) < 2 then x :: psF w f l else ⟨(grpZ w (x :: l) : Nat), 0, (x :: l).take w⟩ :: psF w f ((x :: l).drop (grpZ w (x :: l) * w))
def pasZ (w : Nat) (l : List Lp) : List Lp := psF w l.length l
theorem psF_nil (w f : Nat) : psF w f [] = [] := by cases f <;> rw [psF]
theorem psF_fuel {w : Nat} (hw : 1 ≤ w) : ∀ (f : Nat) (l : List Lp), l.length ≤ f → psF w f l = pasZ w l := by
  intro f
  induction f using Nat.strongRecOn with
  | _ f ih =>
    intro l hl
    cases l with
    | nil => rw [psF_nil]; unfold pasZ; rw [psF_nil]
    | cons x l =>
      obtain ⟨g, rfl⟩ : ∃ g, f = g + 1 := ⟨f - 1, by simp at hl; omega⟩
      unfold pasZ
      rw [List.length_cons, psF, psF]
      simp only [List.length_cons] at hl
      by_cases h : grpZ w (x :: l) < 2
      · rw [if_pos h, if_pos h, ih g (by omega) l (by omega)]
        rfl
      · rw [if_neg h, if_neg h]
        have h2 : 2 * w ≤ grpZ w (x :: l) * w := Nat.mul_le_mul_right _ (by omega)
        have hd : ((x :: l).drop (grpZ w (x :: l) * w)).length ≤ l.length := by rw [List.length_drop, List.length_cons]; omega
        rw [ih g (by omega) _ (by omega)]
        by_cases hg : l.length = g
        · rw [hg, ih g (by omega) _ (by omega)]
        · rw [ih l.length (by omega) _ hd]
theorem pas_nil (w : Nat) : pasZ w [] = [] := psF_nil _ _
theorem pas_cons {w : Nat} (hw : 1 ≤ w) (x : Lp) (l : List Lp) : pasZ w (x :: l) = if grpZ w (x :: l) < 2 then x :: pasZ w l else ⟨(grpZ w (x :: l) : Nat), 0, (x :: l).take w⟩ :: pasZ w ((x :: l).drop (grpZ w (x :: l) * w)) := by
  conv => lhs; unfold pasZ
  rw [List.length_cons, psF]
  by_cases h : grpZ w (x :: l) < 2
  · rw [if_pos h, if_pos h]; rfl
  · rw [if_neg h, if_neg h]
    have h2 : 2 * w ≤ grpZ w (x :: l) * w := Nat.mul_le_mul_right _ (by omega)
    rw [psF_fuel hw l.length _ (by rw [List.length_drop, List.length_cons]; omega)]
theorem pas_ind {w : Nat} (hw : 1 ≤ w) {P : List Lp → List Lp → Prop} (h0 : P [] []) (h1 : ∀ x l, grpZ w (x :: l) < 2 → P l (pasZ w l) → P (x :: l) (x :: pasZ w l))
    (h2 : ∀ x l m, 2 ≤ m → grpZ w (x :: l) = m → m * w ≤ (x :: l).length → P ((x :: l).drop (m * w)) (pasZ w ((x :: l).drop (m * w))) → P (x :: l) (⟨(m : Nat), 0, (x :: l).take w⟩ :: pasZ w ((x :: l).drop (m * w)))) : ∀ l, P l (pasZ w l) := by
  intro l
  obtain ⟨n, hn⟩ : ∃ n, l.length = n := ⟨_, rfl⟩
  induction n using Nat.strongRecOn generalizing l with
  | _ n ih =>
    cases l with
    | nil => rw [pas_nil]; exact h0
    | cons x l =>
      rw [pas_cons hw]
      rw [List.length_cons] at hn
      by_cases h : grpZ w (x :: l) < 2
      · rw [if_pos h]
        exact h1 x l h (ih l.length (by omega) l rfl)
      · rw [if_neg h]
        have hl := grp_le (w := w) (l := x :: l) (by omega)
        obtain ⟨m, hm⟩ : ∃ m, grpZ w (x :: l) = m := ⟨_, rfl⟩
        rw [hm] at hl h ⊢
        have h3 : 2 * w ≤ m * w := Nat.mul_le_mul_right _ (by omega)
        exact h2 x l m (by omega) hm hl (ih _ (by rw [List.length_drop, List.length_cons]; omega) _ rfl)
theorem pas_len {w : Nat} (hw : 1 ≤ w) (l : List Lp) : (pasZ w l).length ≤ l.length := by
  refine pas_ind hw (P := fun l m => m.length ≤ l.length) (Nat.le_refl _) (fun x l _ h => ?_) (fun x l m hm _ hl h => ?_) l
  · rw [List.length_cons, List.length_cons]; omega
  · rw [List.length_drop] at h
    have h3 : 2 * w ≤ m * w := Nat.mul_le_mul_right _ hm
    rw [List.length_cons]; omega
theorem take_rep {w : Nat} (hw : 1 ≤ w) {l : List Lp} : ∀ {m : Nat}, m ≤ grpZ w l → m * w ≤ l.length → l.take (m * w) = (List.replicate m (l.take w)).flatten := by
  intro m hm hl
  have hg := grp_get hw hm hl
  have hlen : ((List.replicate m (l.take w)).flatten).length = m * w ∨ m = 0 := by
    by_cases h0 : m = 0
    · exact .inr h0
    · left
      have : w ≤ l.length := Nat.le_trans (Nat.le_mul_of_pos_left w (by omega)) hl
      rw [List.length_flatten, List.map_replicate, List.sum_replicate_nat, List.length_take, Nat.min_eq_left this]
  rcases hlen with hlen | h0
  · have : w ≤ l.length ∨ m = 0 := by
      by_cases h0 : m = 0
      · exact .inr h0
      · exact .inl (Nat.le_trans (Nat.le_mul_of_pos_left w (by omega)) hl)
    rcases this with hwl | h0
    · apply List.ext_getElem?
      intro j
      by_cases hj : j < m * w
      · rw [List.getElem?_take, if_pos hj, hg j hj]
        have key : ∀ (n : Nat) (t : List Lp) (j : Nat), t.length = w → j < n * w → (List.replicate n t).flatten[j]? = t[j % w]? := by
          intro n
          induction n with
          | zero => intro t j _ hj; simp at hj
          | succ n ih =>
            intro t j ht hj
            rw [List.replicate_succ, List.flatten_cons]
            by_cases hjw : j < w
            · rw [List.getElem?_append_left (by omega), Nat.mod_eq_of_lt hjw]
            · rw [List.getElem?_append_right (by omega), ht, ih t (j - w) ht (by rw [Nat.succ_mul] at hj; omega), ← Nat.mod_eq_sub_mod (by omega)]
        rw [key m (l.take w) j (by rw [List.length_take, Nat.min_eq_left hwl]) hj]
      · rw [List.getElem?_take, if_neg hj, List.getElem?_eq_none (by rw [hlen]; omega)]
    · subst h0; simp
  · subst h0; simp
theorem take_ne {x : Lp} {l : List Lp} {w : Nat} (hw : 1 ≤ w) : ((x :: l).take w).isEmpty = false := by
  obtain ⟨v, rfl⟩ : ∃ v, w = v + 1 := ⟨w - 1, by omega⟩
  rfl
/-- A row folded till no width folds it further. -/
def shF : Nat → Nat → List Lp → List Lp
  | 0, _, l => l
  | f + 1, wd, l => if wd ≤ 16 ∧ 2 * wd ≤ l.length then (if (pasZ wd l).length < l.length then shF f 1 (pasZ wd l) else shF f (wd + 1) (pasZ wd l)) else l
def shZ (l : List Lp) : List Lp := shF (18 * l.length + 17) 1 l
end Go.Proofs.Ytmeogapffdgjlab

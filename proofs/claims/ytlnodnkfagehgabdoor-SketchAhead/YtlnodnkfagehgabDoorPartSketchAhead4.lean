/- Texts of one chain, laid one behind the other. -/
import Derived.Test.YtlnodnkfagehgabDoorPartSketchAhead1
import Derived.Test.YtlnodnkfagehgabDoorPartSketchAhead3
import Derived.Test.YtlnodnkfagehgabDoorPartSketchAhead2
/- The walk through the statement SketchLoose. (Written by tmpl/mkLoose.py.) -/
namespace Go.Proofs.YtlnodnkfagehgabDoor
open Go.ChangeShapes Go.WideShapes Go.ChangeAt Go.RowKit

structure RB (V : World) (vb : Value) (l : List UInt8) (wr : World) : Prop where
  bytes : OwnB V.heap.size wr vb l
  bel : Below V.heap.size V wr
theorem RB.below {V vb l wr w'} (h : RB V vb l wr) (hb : Below wr.heap.size wr w') : RB V vb l w' := ⟨row_below h.bytes hb, h.bel.trans (hb.mono h.bel.size)⟩
theorem RB.shape {V vb l wr} (h : RB V vb l wr) : ∃ a cap, vb = .slice a l.length cap := by
  rcases h.bytes.2 with ⟨h1, h2⟩ | ⟨g, cap, cur, rfl, -⟩
  · exact ⟨none, 0, by rw [h1, h2]⟩
  · exact ⟨_, cap, rfl⟩
theorem RB.strA {V vb l wr v' w'} {m : List UInt8} (h : RB V vb l wr) (ho : w'.ownsRow V.heap.size 5 1 v' (l.length + (str m).size) (Lib.strCells (str l) ++ Lib.strCells (str m))) (hg : wr.grownBy w' vb.ownBlock) : RB V v' (l ++ m) w' := by
  refine ⟨?_, below_grownO h.bel hg (fun k e => (row_low h.bytes k e).1) h.bel.size⟩
  unfold OwnB
  rw [cells_append, List.length_append, ← str_size m]
  exact ho
theorem RB.chrA {V vb l wr v' w' o} (h : RB V vb l wr) (ho : w'.ownsRow V.heap.size 5 1 v' (l.length + 1) (Lib.strCells (str l) ++ [.int .u8 32])) (hg : (wr.alloc o).grownBy w' vb.ownBlock) : RB V v' (l ++ [32]) w' := by
  have h2 := h.below ((Below.refl wr.heap.size wr).alloc (Nat.le_refl _) o)
  refine ⟨?_, below_grownO h2.bel hg (fun k e => (row_low h2.bytes k e).1) h2.bel.size⟩
  unfold OwnB
  rw [cells_append, List.length_append]
  exact ho
theorem chr_new (wr : World) (x : Value) (t : TypeId) : ∀ j u, [x][j]? = some u → (wr.alloc (.cells #[x] t)).cell? ((⟨wr.heap.size, 0, none⟩ : Addr).add j) = some u := by
  intro j u hu
  match j, hu with
  | 0, hu => simp at hu; subst hu; simp [Addr.add]
theorem chr_one : ∀ u ∈ [Value.int .u8 32], u.oneCell' = true := by
  intro u hu; simp at hu; subst hu; rfl
theorem drew_below (w : World) (n : Nat) : Below w.heap.size w (w.drewN n) := bdrew (Below.refl _ _) n
theorem bT_len {ts : List Tok} (h : ∀ k, (spelt (nthT ts k)).length ≤ 20) : ∀ k, (bT ts k).length ≤ 21 * k
  | 0 => Nat.zero_le _
  | k + 1 => by
    rw [bT_succ, List.length_append, List.length_append]
    have := bT_len h k; have := h k
    have : (gapL ts.length k).length ≤ 1 := by unfold gapL; split <;> decide
    omega
theorem fine_len {ts : List Tok} (h : Fine ts) (k : Nat) : (spelt (nthT ts k)).length ≤ 20 := by
  rcases h k with ⟨h1, h2⟩ | ⟨h1, h2⟩
  · exact spelt_len h1 h2
  · unfold spelt
    rw [if_neg (by omega), h2]; decide
theorem fine_fits {ts : List Tok} (hl : ∀ t ∈ ts, In64 t.num) (k : Nat) : fits8 (nthT ts k).num = true := fits_of (nth_in5 hl k)
theorem same_place {l : List UInt8} {ts : List Tok} (hL : Laid l 0 ts) {i j : Nat} (hi : i < ts.length) (hj : j < ts.length) : ((nthT ts i).place = (nthT ts j).place) ↔ i = j := by
  refine ⟨fun e => ?_, fun e => by rw [e]⟩
  rcases Nat.lt_trichotomy i j with h | h | h
  · have := laid_rise ts 0 hL i j h hj; omega
  · exact h
  · have := laid_rise ts 0 hL j i h hi; omega
def wrongO (ts : List Tok) (fc : Int) (j i : Nat) : Int := if fc = 50 ∧ j < i then ((bT ts j).length : Int) else -1
theorem all_two (l : List UInt8) (W : World) (hE : Env W) : Calls Tryd.prog 7 #[.string (str l)] W fun e w' => ∃ a n c, e = .returned (.tuple #[.slice a n c, .agg #[.int .i64 (textG l).err, .int .i64 (textG l).place]]) ∧ Below W.heap.size W w' :=
  (all_any l W hE).mono fun _ w' ⟨v, he, hk, hb⟩ => by
    obtain ⟨a, c, rfl⟩ := hk.shape
    exact ⟨a, _, c, he, hb⟩
end Go.Proofs.YtlnodnkfagehgabDoor

/- The walk through the statement SketchLoose, its end. -/
namespace Go.Proofs.YtlnodnkfagehgabDoor
open Go.ChangeShapes Go.WideShapes Go.ChangeAt Go.RowKit

theorem laid_right {l : List UInt8} : ∀ (ts : List Tok) (p : Nat), Laid l p ts → ∀ k, k + 1 < ts.length → rightB (nthT ts k) = true ∧ fits8 (nthT ts k).num = true
  | [], _, h => by cases h
  | t :: r, p, h => by
    obtain ⟨q, -, -, -, -, h5, h6⟩ := h
    intro k hk
    rcases h6 with ⟨-, rfl, -⟩ | ⟨-, b, h7⟩
    · simp at hk
    · match k with
      | 0 => exact ⟨b, h5⟩
      | k + 1 => exact laid_right r _ h7 k (by simp at hk; omega)
theorem itemsF_in {ts : List Tok} (hE : Ended ts) : ∀ (n i : Nat), i < ts.length → (itemsF n ts i).2 < ts.length
  | 0, i, h => h
  | n + 1, i, h => by
    unfold itemsF
    split
    · exact h
    · exact then_in (itemR_in hE h) fun x j hj => then_in (itemsF_in hE n j hj) fun xs k hk => hk
theorem sketch_none_in {ts : List Tok} (hE : Ended ts) {j : Nat} (h : sketchR ts = (none, j)) : j < ts.length := by
  unfold sketchR at h
  rcases then_bad h with h | ⟨_, i1, h1, h⟩
  · have := textR_in hE hE.pos (x := [103, 114, 97, 112, 104]) (by decide); rw [h] at this; exact this
  have b1 : i1 < ts.length := by have := textR_in hE hE.pos (x := [103, 114, 97, 112, 104]) (by decide); rw [h1] at this; exact this
  rcases then_bad h with h | ⟨_, i2, h2, h⟩
  · have := nameR_in hE b1; rw [h] at this; exact this
  have b2 : i2 < ts.length := by have := nameR_in hE b1; rw [h2] at this; exact this
  rcases then_bad h with h | ⟨_, i3, h3, h⟩
  · have := textR_in hE b2 (x := [123]) (by decide); rw [h] at this; exact this
  have b3 : i3 < ts.length := by have := textR_in hE b2 (x := [123]) (by decide); rw [h3] at this; exact this
  rcases then_bad h with h | ⟨_, i4, h4, h⟩
  · have := itemsF_in hE ts.length i3 b3; rw [h] at this; exact this
  have b4 : i4 < ts.length := by have := itemsF_in hE ts.length i3 b3; rw [h4] at this; exact this
  rcases then_bad h with h | ⟨_, i5, h5, h⟩
  · have := textR_in hE b4 (x := [125]) (by decide); rw [h] at this; exact this
  have b5 : i5 < ts.length := by have := textR_in hE b4 (x := [125]) (by decide); rw [h5] at this; exact this
  split at h
  · cases h
  · injection h with _ h7
    omega
theorem bare_none {r : Rd Skt} {j : Nat} (h : bareR bareS r = bareR bareS (none, j)) : r = (none, j) := by
  obtain ⟨_ | s, k⟩ := r
  · injection h with h1 h2
    have h2 : k = j := h2
    rw [h2]
  · injection h with h1 h2
    cases h1
theorem bare_some {r : Rd Skt} {s : Skt} {j : Nat} (h : bareR bareS r = bareR bareS (some s, j)) : ∃ s', r = (some s', j) ∧ bareS s' = bareS s := by
  obtain ⟨_ | s', k⟩ := r
  · injection h with h1 h2
    cases h1
  · injection h with h1 h2
    have h2 : k = j := h2
    rw [h2]
    exact ⟨s', rfl, Option.some.inj h1⟩
end Go.Proofs.YtlnodnkfagehgabDoor

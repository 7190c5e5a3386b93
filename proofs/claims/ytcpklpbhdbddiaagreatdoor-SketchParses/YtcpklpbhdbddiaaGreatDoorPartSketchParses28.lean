/- Texts of one chain, laid one behind the other. -/
import Derived.Test.YtcpklpbhdbddiaaGreatDoorPartSketchParses22
import Derived.Test.YtcpklpbhdbddiaaGreatDoorPartSketchParses7
namespace Go.Proofs.YtcpklpbhdbddiaaGreatDoor
open Go.ChangeShapes Go.WideShapes Go.ChangeAt Go.RowKit
structure LS (w : World) (nm : List UInt8) (a : Option Addr) (n c : Nat) (L : List (Itm × Value)) (k : Nat) (v : Value) (M : List (Itm × Value)) (wr : World) : Prop where
  b1 : Blk 24 w.heap.size wr #[.string (str nm), .slice a n c]
  b2 : Blk 24 (w.heap.size + 1) wr #[.string ⟨#[]⟩, .slice none 0 0]
  b3 : Blk 24 (w.heap.size + 2) wr #[.string (str nm), v]
  its : Its (w.heap.size + 3) wr v M
  same : M.map Prod.fst = (L.take k).map Prod.fst
  len : M.length = k
  bel : Below w.heap.size w wr
  big : w.heap.size + 3 ≤ wr.heap.size
theorem LS.put {w nm a n c L k v M wr} {L2 : List (Itm × Value)} (h : LS w nm a n c L k v M wr) {w2 w4 : World} {x : Itm} {q v' : Value} {m : Nat} {M' : List (Itm × Value)} {k' : Nat} (hb : Below wr.heap.size wr w2) (hq : Ints m w2 q x.nums) (hm : wr.heap.size ≤ m)
    (ho : w4.ownsRow (w.heap.size + 3) 55 11 v' (M.length + 1) (M.flatMap itP ++ itP (x, q)))
    (ht : (∃ g cap, v = .slice (some ⟨g, 0, none⟩) M.length cap ∧ v' = .slice (some ⟨g, 0, none⟩) (M.length + 1) cap ∧ w2.grownBy w4 (some g)) ∨ (∃ cap, v' = .slice (some ⟨w2.heap.size, 0, none⟩) (M.length + 1) cap ∧ w2.grownBy w4 none))
    (hM : M' = M ++ [(x, q)]) (hs : M'.map Prod.fst = (L2.take k').map Prod.fst) (hk : M'.length = k') : LS w nm a n c L2 k' v' M' (w4.setCell ⟨w.heap.size + 2, 1, none⟩ v') := by
  subst hM
  have hbig := h.big
  have hsz := hb.size
  have i1 := h.its.below hb
  have i2 := i1.app hq (fun k hk => by
    rcases hk with hk | ⟨p, hp, hk⟩
    · have := own_lt h.its.row k hk; omega
    · have := own_lt (h.its.nums p hp) k hk; omega) (by omega) ho ht
  have hg : ∃ row, w2.grownBy w4 row ∧ ∀ k, row = some k → w.heap.size + 3 ≤ k := by
    rcases ht with ⟨g, cap, e, -, hg⟩ | ⟨cap, -, hg⟩
    · refine ⟨_, hg, fun k hk => ?_⟩
      cases hk
      exact own_row h.its.row g (by rw [e]; rfl)
    · exact ⟨_, hg, fun k hk => by cases hk⟩
  obtain ⟨row, hg, hrow⟩ := hg
  have ne : ∀ d, d < w.heap.size + 3 → some d ≠ row := fun d hd e => by have := hrow d e.symm; omega
  have b3 := ((h.b3.below hb).grown hg (ne _ (by omega))).set 1 v'
  refine ⟨((h.b1.below hb).grown hg (ne _ (by omega))).other (by omega) _, ((h.b2.below hb).grown hg (ne _ (by omega))).other (by omega) _, b3, i2.put (by omega), hs, hk, ?_, ?_⟩
  · have h1 : Below w.heap.size w w2 := h.bel.trans (hb.mono h.bel.size)
    exact (below_grownO h1 hg (fun k hk => by have := hrow k hk; omega) h1.size).setCell (p := ⟨w.heap.size + 2, 1, none⟩) (by show w.heap.size ≤ w.heap.size + 2; omega) _
  · have := hg.size
    simp
    omega
theorem LS.blk3 {w nm a n c L k v M wr} (h : LS w nm a n c L k v M wr) {w2 w4 : World} {v' : Value} {t : Nat} (hb : Below wr.heap.size wr w2)
    (ht : (∃ g cap, v = .slice (some ⟨g, 0, none⟩) t cap ∧ v' = .slice (some ⟨g, 0, none⟩) (t + 1) cap ∧ w2.grownBy w4 (some g)) ∨ (∃ cap, v' = .slice (some ⟨w2.heap.size, 0, none⟩) (t + 1) cap ∧ w2.grownBy w4 none)) :
    Blk 24 (w.heap.size + 2) w4 #[.string (str nm), v] ∧ ∃ x y, v' = .slice x (t + 1) y := by
  rcases ht with ⟨g, cap, e, e2, hg⟩ | ⟨cap, e2, hg⟩
  · refine ⟨(h.b3.below hb).grown hg (fun q => ?_), _, _, e2⟩
    have := own_row h.its.row g (by rw [e]; rfl)
    have := Option.some.inj q
    omega
  · exact ⟨(h.b3.below hb).grown hg (fun q => by cases q), _, _, e2⟩
theorem ItR.pre {w a L M} (h : ItR w a (L ++ M)) : ItR w a L := by
  refine ⟨?_, fun p hp => h.nums p (List.mem_append_left _ hp)⟩
  rcases h.lie with h0 | ⟨g, off, e, hc⟩
  · exact .inl (List.append_eq_nil_iff.1 h0).1
  · refine .inr ⟨g, off, e, fun k hk => ?_⟩
    have := hc k (by rw [List.length_append]; omega)
    unfold nthI at this ⊢
    rw [List.getD_eq_getElem?_getD, List.getElem?_append_left hk] at this
    rw [List.getD_eq_getElem?_getD]
    exact this
theorem At.block5 {w w' : World} {a : Option Addr} {zs : List Int} (h : At w a zs) (hb : ∀ x, a = some x → w'.heap[x.block]? = w.heap[x.block]?) : At w' a zs := by
  rcases h with h | ⟨b, off, rfl, hc⟩
  · exact .inl h
  · refine .inr ⟨b, off, rfl, fun k hk => ?_⟩
    rw [World.cell?_of_block (w := w) (w' := w') (a := ⟨b, off + k, none⟩) (hb ⟨b, off, none⟩ rfl)]
    exact hc k hk
/-- Items whose numbers have the marks behind them. -/
def LM (B : Nat) (wr : World) (M : List (Itm × Value)) : Prop := ∀ p ∈ M, ∃ g, B ≤ g ∧ g < wr.heap.size ∧ p.2 = .slice (some ⟨g, 0, none⟩) p.1.nums.length (p.1.nums.length + 4) ∧ At wr (some ⟨g, 0, none⟩) (p.1.nums ++ [-7770777, -7770777, -7770777, -7770777])
theorem LM.set {B : Nat} {wr : World} {M : List (Itm × Value)} (h : LM B wr M) {b : Nat} (hb : b < B) (k : Nat) (u : Value) : LM B (wr.setCell ⟨b, k, none⟩ u) M := fun p hp => by
  obtain ⟨g, h1, h2, h3, h4⟩ := h p hp
  exact ⟨g, h1, by rw [World.size_setCell]; exact h2, h3, h4.block5 fun x hx => by cases hx; exact Below.heap_setCell _ _ _ _ (by show g ≠ b; omega)⟩
theorem LM.below {B : Nat} {w w' : World} {M : List (Itm × Value)} (h : LM B w M) (hb : Below w.heap.size w w') : LM B w' M := fun p hp => by
  obtain ⟨g, h1, h2, h3, h4⟩ := h p hp
  exact ⟨g, h1, Nat.lt_of_lt_of_le h2 hb.size, h3, h4.below hb⟩
theorem LM.go {w nm a n c L k v M wr} (h : LS w nm a n c L k v M wr) (hm : LM (w.heap.size + 3) wr M) {w2 w4 : World} {v' : Value} (hb : Below wr.heap.size wr w2)
    (ht : (∃ g cap, v = .slice (some ⟨g, 0, none⟩) M.length cap ∧ v' = .slice (some ⟨g, 0, none⟩) (M.length + 1) cap ∧ w2.grownBy w4 (some g)) ∨ (∃ cap, v' = .slice (some ⟨w2.heap.size, 0, none⟩) (M.length + 1) cap ∧ w2.grownBy w4 none)) : LM (w.heap.size + 3) (w4.setCell ⟨w.heap.size + 2, 1, none⟩ v') M := by
  refine LM.set (fun p hp => ?_) (by omega) _ _
  obtain ⟨g, h1, h2, h3, h4⟩ := (hm.below hb) p hp
  have hoff := h.its.off p hp g (by rw [h3]; rfl)
  have key : w4.heap[g]? = w2.heap[g]? ∧ w2.heap.size ≤ w4.heap.size := by
    rcases ht with ⟨g', cap, e, -, hg⟩ | ⟨cap, -, hg⟩
    · exact ⟨hg.block g h2 (fun e2 => hoff (by rw [e]; exact e2.symm)), hg.size⟩
    · exact ⟨hg.block g h2 (fun e2 => by cases e2), hg.size⟩
  exact ⟨g, h1, Nat.lt_of_lt_of_le h2 key.2, h3, h4.block5 fun x hx => by cases hx; exact key.1⟩
theorem LM.put {w nm a n c L k v M wr} (h : LS w nm a n c L k v M wr) (hm : LM (w.heap.size + 3) wr M) {w2 w4 : World} {x : Itm} {g : Nat} {v' : Value} (hb : Below wr.heap.size wr w2) (hg : wr.heap.size ≤ g) (hlt : g < w2.heap.size) (hat : At w2 (some ⟨g, 0, none⟩) (x.nums ++ [-7770777, -7770777, -7770777, -7770777]))
    (ht : (∃ g cap, v = .slice (some ⟨g, 0, none⟩) M.length cap ∧ v' = .slice (some ⟨g, 0, none⟩) (M.length + 1) cap ∧ w2.grownBy w4 (some g)) ∨ (∃ cap, v' = .slice (some ⟨w2.heap.size, 0, none⟩) (M.length + 1) cap ∧ w2.grownBy w4 none)) : LM (w.heap.size + 3) (w4.setCell ⟨w.heap.size + 2, 1, none⟩ v') (M ++ [(x, .slice (some ⟨g, 0, none⟩) x.nums.length (x.nums.length + 4))]) := by
  intro p hp
  rcases List.mem_append.1 hp with hp | hp
  · exact LM.go h hm hb ht p hp
  · rw [List.mem_singleton] at hp
    subst hp
    have hbig := h.big
    have key : w4.heap[g]? = w2.heap[g]? ∧ w2.heap.size ≤ w4.heap.size := by
      rcases ht with ⟨g', cap, e, -, hgg⟩ | ⟨cap, -, hgg⟩
      · exact ⟨hgg.block g hlt (fun e2 => by
          have h1 := own_lt h.its.row g' (by rw [e]; rfl)
          have h2 := Option.some.inj e2
          omega), hgg.size⟩
      · exact ⟨hgg.block g hlt (fun e2 => by cases e2), hgg.size⟩
    exact ⟨g, by omega, by rw [World.size_setCell]; exact Nat.lt_of_lt_of_le hlt key.2, rfl, (hat.block5 fun y hy => by cases hy; exact key.1).block5 fun y hy => by cases hy; exact Below.heap_setCell _ _ _ _ (by show g ≠ w.heap.size + 2; omega)⟩
end Go.Proofs.YtcpklpbhdbddiaaGreatDoor

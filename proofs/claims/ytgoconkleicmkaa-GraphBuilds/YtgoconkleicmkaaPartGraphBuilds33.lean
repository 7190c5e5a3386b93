/- Texts of one chain. -/
import Derived.Test.YtgoconkleicmkaaPartGraphBuilds32
import Derived.Test.YtgoconkleicmkaaPartGraphBuilds7
import Derived.Test.YtgoconkleicmkaaPartGraphBuilds31
import Derived.Test.YtgoconkleicmkaaPartGraphBuilds30
import Derived.Test.YtgoconkleicmkaaPartGraphBuilds8
import Derived.Test.YtgoconkleicmkaaPartGraphBuilds29
namespace Go.Proofs.Ytgoconkleicmkaa
open Go.ChangeShapes Go.WideShapes Go.ChangeAt Go.RowKit
theorem zN.grown {T n w w' cs} {row : Option Nat} (h : zN T n w cs) (hg : w.grownBy w' row) (hn : some n ≠ row) : zN T n w' cs := (hg.block n h.lt hn).trans h
theorem zN.other {T n w cs} (h : zN T n w cs) {m k : Nat} (hn : n ≠ m) (u : Value) : zN T n (w.setCell ⟨m, k, none⟩ u) cs := (Below.heap_setCell w _ _ n hn).trans h
structure bA (w : World) (nm : List UInt8) (a : Option Addr) (n c : Nat) (L : List (yO × Value)) (k : Nat) (v : Value) (M : List (yO × Value)) (wr : World) : Prop where
 b1 : zN 24 w.heap.size wr #[.string (zW nm), .slice a n c]
 b2 : zN 24 (w.heap.size + 1) wr #[.string ⟨#[]⟩, .slice none 0 0]
 b3 : zN 24 (w.heap.size + 2) wr #[.string (zW nm), v]
 its : rA (w.heap.size + 3) wr v M
 same : M.map Prod.fst = (L.take k).map Prod.fst
 len : M.length = k
 bel : Below w.heap.size w wr
 big : w.heap.size + 3 <= wr.heap.size
theorem bA.put {w nm a n c L k v M wr} {L2 : List (yO × Value)} (h : bA w nm a n c L k v M wr) {w2 w4 : World} {x : yO} {q v' : Value} {m : Nat} {M' : List (yO × Value)} {k' : Nat} (hb : Below wr.heap.size wr w2) (hq : yC m w2 q x.nums) (hm : wr.heap.size <= m)
 (ho : w4.ownsRow (w.heap.size + 3) 45 11 v' (M.length + 1) (M.flatMap tL ++ tL (x, q)))
 (ht : (∃ g cap, v = .slice (some ⟨g, 0, none⟩) M.length cap /\ v' = .slice (some ⟨g, 0, none⟩) (M.length + 1) cap /\ w2.grownBy w4 (some g)) \/ (∃ cap, v' = .slice (some ⟨w2.heap.size, 0, none⟩) (M.length + 1) cap /\ w2.grownBy w4 none))
 (hM : M' = M ++ [(x, q)]) (hs : M'.map Prod.fst = (L2.take k').map Prod.fst) (hk : M'.length = k') : bA w nm a n c L2 k' v' M' (w4.setCell ⟨w.heap.size + 2, 1, none⟩ v') := by
 subst hM
 have hbig := h.big
 have hsz := hb.size
 have i1 := h.its.below hb
 have i2 := i1.app hq (fun k hk => by
  rcases hk with hk | ⟨p, hp, hk⟩
  ·have := zR h.its.row k hk; omega
  have := zR (h.its.nums p hp) k hk; omega) (by omega) ho ht
 have hg : ∃ row, w2.grownBy w4 row /\ ∀ k, row = some k -> w.heap.size + 3 <= k := by
  rcases ht with ⟨g, cap, e, -, hg⟩ | ⟨cap, -, hg⟩
  ·refine ⟨_, hg, fun k hk => ?_⟩
   cases hk
   exact zT h.its.row g (by rw [e]; rfl)
  exact ⟨_, hg, fun k hk => by cases hk⟩
 obtain ⟨row, hg, hrow⟩ := hg
 have ne : ∀ d, d < w.heap.size + 3 -> some d ≠ row := fun d hd e => by have := hrow d e.symm; omega
 have b3 := ((h.b3.below hb).grown hg (ne _ (by omega))).set 1 v'
 refine ⟨((h.b1.below hb).grown hg (ne _ (by omega))).other (by omega) _, ((h.b2.below hb).grown hg (ne _ (by omega))).other (by omega) _, b3, i2.put (by omega), hs, hk, ?_, ?_⟩
 ·have h1 : Below w.heap.size w w2 := h.bel.trans (hb.mono h.bel.size)
  exact (zH h1 hg (fun k hk => by have := hrow k hk; omega) h1.size).setCell (p := ⟨w.heap.size + 2, 1, none⟩) (by show w.heap.size <= w.heap.size + 2; omega) _
 have := hg.size
 simp
 omega
theorem bA.blk3 {w nm a n c L k v M wr} (h : bA w nm a n c L k v M wr) {w2 w4 : World} {v' : Value} {t : Nat} (hb : Below wr.heap.size wr w2)
 (ht : (∃ g cap, v = .slice (some ⟨g, 0, none⟩) t cap /\ v' = .slice (some ⟨g, 0, none⟩) (t + 1) cap /\ w2.grownBy w4 (some g)) \/ (∃ cap, v' = .slice (some ⟨w2.heap.size, 0, none⟩) (t + 1) cap /\ w2.grownBy w4 none)) :
 zN 24 (w.heap.size + 2) w4 #[.string (zW nm), v] /\ ∃ x y, v' = .slice x (t + 1) y := by
 rcases ht with ⟨g, cap, e, e2, hg⟩ | ⟨cap, e2, hg⟩
 ·refine ⟨(h.b3.below hb).grown hg (fun q => ?_), _, _, e2⟩
  have := zT h.its.row g (by rw [e]; rfl)
  have := Option.some.inj q
  omega
 exact ⟨(h.b3.below hb).grown hg (fun q => by cases q), _, _, e2⟩
theorem bA.blks {w nm a n c L k v M wr} (h : bA w nm a n c L k v M wr) {w2 w4 : World} {v' : Value} {t : Nat} (hb : Below wr.heap.size wr w2)
 (ht : (∃ g cap, v = .slice (some ⟨g, 0, none⟩) t cap /\ v' = .slice (some ⟨g, 0, none⟩) (t + 1) cap /\ w2.grownBy w4 (some g)) \/ (∃ cap, v' = .slice (some ⟨w2.heap.size, 0, none⟩) (t + 1) cap /\ w2.grownBy w4 none)) :
 zN 24 w.heap.size w4 #[.string (zW nm), .slice a n c] /\ zN 24 (w.heap.size + 1) w4 #[.string ⟨#[]⟩, .slice none 0 0] := by
 rcases ht with ⟨g, cap, e, e2, hg⟩ | ⟨cap, e2, hg⟩
 ·have := zT h.its.row g (by rw [e]; rfl)
  exact ⟨(h.b1.below hb).grown hg (fun q => by have := Option.some.inj q; omega), (h.b2.below hb).grown hg (fun q => by have := Option.some.inj q; omega)⟩
 exact ⟨(h.b1.below hb).grown hg (fun q => by cases q), (h.b2.below hb).grown hg (fun q => by cases q)⟩
def oZ : yO := ⟨99, [], [], [], qO, qO, 0⟩
theorem UX (W : World) (T : TypeId) (c0 c1 c2 c3 c4 c5 c6 c7 c8 c9 c10 : Value) : ∀ j u, [c0, c1, c2, c3, c4, c5, c6, c7, c8, c9, c10][j]? = some u -> (W.alloc (.cells #[c0, c1, c2, c3, c4, c5, c6, c7, c8, c9, c10] T)).cell? ((⟨W.heap.size, 0, none⟩ : Addr).add j) = some u := by
 intro j u hu
 rw [xC]
 have h := zU T W #[c0, c1, c2, c3, c4, c5, c6, c7, c8, c9, c10]
 exact h.cell (k := j) (by rw [<- hu]; simp)
theorem At.block8 {w w' : World} {a : Option Addr} {zs : List Int} (h : At w a zs) (hb : ∀ x, a = some x -> w'.heap[x.block]? = w.heap[x.block]?) : At w' a zs := by
 rcases h with h | ⟨b, off, rfl, hc⟩
 ·exact .inl h
 refine .inr ⟨b, off, rfl, fun k hk => ?_⟩
 rw [World.cell?_of_block (w := w) (w' := w') (a := ⟨b, off + k, none⟩) (hb ⟨b, off, none⟩ rfl)]
 exact hc k hk
def LM (B : Nat) (wr : World) (M : List (yO × Value)) : Prop := ∀ p ∈ M, ∃ g, B <= g /\ g < wr.heap.size /\ p.2 = .slice (some ⟨g, 0, none⟩) p.1.nums.length (p.1.nums.length + 4) /\ At wr (some ⟨g, 0, none⟩) (p.1.nums ++ [-7770777, -7770777, -7770777, -7770777])
theorem TM (B : Nat) (w : World) : LM B w [] := fun p hp => by cases hp
theorem LM.set {B : Nat} {wr : World} {M : List (yO × Value)} (h : LM B wr M) {b : Nat} (hb : b < B) (k : Nat) (u : Value) : LM B (wr.setCell ⟨b, k, none⟩ u) M := fun p hp => by
 obtain ⟨g, h1, h2, h3, h4⟩ := h p hp
 exact ⟨g, h1, by rw [World.size_setCell]; exact h2, h3, h4.block8 fun x hx => by cases hx; exact Below.heap_setCell _ _ _ _ (by show g ≠ b; omega)⟩
theorem LM.below {B : Nat} {w w' : World} {M : List (yO × Value)} (h : LM B w M) (hb : Below w.heap.size w w') : LM B w' M := fun p hp => by
 obtain ⟨g, h1, h2, h3, h4⟩ := h p hp
 exact ⟨g, h1, Nat.lt_of_lt_of_le h2 hb.size, h3, h4.below hb⟩
theorem LM.go {w nm a n c L k v M wr} (h : bA w nm a n c L k v M wr) (hm : LM (w.heap.size + 3) wr M) {w2 w4 : World} {v' : Value} (hb : Below wr.heap.size wr w2)
 (ht : (∃ g cap, v = .slice (some ⟨g, 0, none⟩) M.length cap /\ v' = .slice (some ⟨g, 0, none⟩) (M.length + 1) cap /\ w2.grownBy w4 (some g)) \/ (∃ cap, v' = .slice (some ⟨w2.heap.size, 0, none⟩) (M.length + 1) cap /\ w2.grownBy w4 none)) : LM (w.heap.size + 3) (w4.setCell ⟨w.heap.size + 2, 1, none⟩ v') M := by
 refine LM.set (fun p hp => ?_) (by omega) _ _
 obtain ⟨g, h1, h2, h3, h4⟩ := (hm.below hb) p hp
 have hoff := h.its.off p hp g (by rw [h3]; rfl)
 have key : w4.heap[g]? = w2.heap[g]? /\ w2.heap.size <= w4.heap.size := by
  rcases ht with ⟨g', cap, e, -, hg⟩ | ⟨cap, -, hg⟩
  ·exact ⟨hg.block g h2 (fun e2 => hoff (by rw [e]; exact e2.symm)), hg.size⟩
  exact ⟨hg.block g h2 (fun e2 => by cases e2), hg.size⟩
 exact ⟨g, h1, Nat.lt_of_lt_of_le h2 key.2, h3, h4.block8 fun x hx => by cases hx; exact key.1⟩
theorem LM.put {w nm a n c L k v M wr} (h : bA w nm a n c L k v M wr) (hm : LM (w.heap.size + 3) wr M) {w2 w4 : World} {x : yO} {g : Nat} {v' : Value} (hb : Below wr.heap.size wr w2) (hg : wr.heap.size <= g) (hlt : g < w2.heap.size) (hat : At w2 (some ⟨g, 0, none⟩) (x.nums ++ [-7770777, -7770777, -7770777, -7770777]))
 (ht : (∃ g cap, v = .slice (some ⟨g, 0, none⟩) M.length cap /\ v' = .slice (some ⟨g, 0, none⟩) (M.length + 1) cap /\ w2.grownBy w4 (some g)) \/ (∃ cap, v' = .slice (some ⟨w2.heap.size, 0, none⟩) (M.length + 1) cap /\ w2.grownBy w4 none)) : LM (w.heap.size + 3) (w4.setCell ⟨w.heap.size + 2, 1, none⟩ v') (M ++ [(x, .slice (some ⟨g, 0, none⟩) x.nums.length (x.nums.length + 4))]) := by
 intro p hp
 rcases List.mem_append.1 hp with hp | hp
 ·exact LM.go h hm hb ht p hp
 rw [List.mem_singleton] at hp
 subst hp
 have hbig := h.big
 have key : w4.heap[g]? = w2.heap[g]? /\ w2.heap.size <= w4.heap.size := by
  rcases ht with ⟨g', cap, e, -, hgg⟩ | ⟨cap, -, hgg⟩
  ·exact ⟨hgg.block g hlt (fun e2 => by
    have h1 := zR h.its.row g' (by rw [e]; rfl)
    have h2 := Option.some.inj e2
    omega), hgg.size⟩
  exact ⟨hgg.block g hlt (fun e2 => by cases e2), hgg.size⟩
 exact ⟨g, by omega, by rw [World.size_setCell]; exact Nat.lt_of_lt_of_le hlt key.2, rfl, (hat.block8 fun y hy => by cases hy; exact key.1).block8 fun y hy => by cases hy; exact Below.heap_setCell _ _ _ _ (by show g ≠ w.heap.size + 2; omega)⟩
def YP (w : World) (nm : List UInt8) (n : Nat) (L : List (yO × Value)) (e : Ending) (w' : World) : Prop :=
 ∃ a' c' M, e = .returned (.agg #[.string (zW nm), .slice a' n c']) /\ M.map Prod.fst = L.map Prod.fst /\ M.length = n /\ nS w' a' (M ++ [(oZ, Value.slice none 0 0)]) /\ LM (w.heap.size + 3) w' M /\ n + 1 <= c' /\ Below w.heap.size w w'
set_option maxRecDepth 100000 in
set_option maxHeartbeats 8000000 in
theorem eK (nm : List UInt8) (a : Option Addr) (n c : Nat) (L : List (yO × Value)) (w : World) (h : mC w a n L) (hn : n <= 1048576) (hm : ∀ p ∈ L, p.1.nums.length <= 1048576) :
 Calls Try.prog 5 #[.agg #[.string (zW nm), .slice a n c]] w (YP w nm n L) := by
 have HA := zZ h
 have HL := zZ h.size
 have HM := zZ hm
 obtain ⟨i0, hi, hz0, hz1, hz2⟩ := info_parts Try.infoIT
 have HJ := zZ hi
 have HJ0 := zZ hz0
 have HJ1 := zZ hz1
 have HJ2 := zZ hz2
 have hnI : (n : Int) <= 1048576 := by omega
 have HS0 : Hid (bA w nm a n c L 0 (.slice none 0 0) [] (((w.alloc (.cells #[.string (zW nm), .slice a n c] 24)).alloc (.cells #[.string ⟨#[]⟩, .slice none 0 0] 24)).alloc (.cells #[.string (zW nm), .slice none 0 0] 24))) := by
  have q1 := (Below.refl w.heap.size w).alloc (Nat.le_refl _) (.cells #[.string (zW nm), .slice a n c] 24)
  have s1 : (w.alloc (.cells #[.string (zW nm), .slice a n c] 24)).heap.size = w.heap.size + 1 := by simp
  have s2 : ((w.alloc (.cells #[.string (zW nm), .slice a n c] 24)).alloc (.cells #[.string ⟨#[]⟩, .slice none 0 0] 24)).heap.size = w.heap.size + 2 := by simp
  have k1 := zU 24 w #[.string (zW nm), .slice a n c]
  have k2 := zU 24 (w.alloc (.cells #[.string (zW nm), .slice a n c] 24)) #[.string ⟨#[]⟩, .slice none 0 0]
  have k3 := zU 24 ((w.alloc (.cells #[.string (zW nm), .slice a n c] 24)).alloc (.cells #[.string ⟨#[]⟩, .slice none 0 0] 24)) #[.string (zW nm), .slice none 0 0]
  rw [s1] at k2
  rw [s2] at k3
  exact ⟨(k1.below ((Below.refl _ _).alloc (Nat.le_refl _) _)).below ((Below.refl _ _).alloc (Nat.le_refl _) _), k2.below ((Below.refl _ _).alloc (Nat.le_refl _) _), k3, dP _ _, by simp, rfl, (q1.alloc (by simp) _).alloc (by simp; omega) _, by simp⟩
 clear h hm hi hz0 hz1 hz2
 go_enter Try.func5, Try.ntmps5
 go_wp2
 go_loopg [4] n (fun gk v wr => ∃ (k : Nat) (va : Option Addr) (vc : Nat) (M : List (yO × Value)), k <= n /\ gk = n - k /\ v = .int .i64 (k : Int) /\ bA w nm a n c L k (.slice va k vc) M wr /\ LM (w.heap.size + 3) wr M)
 case atStart => exact ⟨0, none, 0, [], Nat.zero_le _, rfl, rfl, HS0.out, TM _ _⟩
 case round =>
  clear HS0
  obtain ⟨k, va, vc, M, hk, rfl, rfl, hs, hlm⟩ := hrel
  have HLM := zZ hlm
  have HS := zZ hs
  have HAW := zZ (HA.out.below hs.bel)
  have y1 : wr.cell? ⟨w.heap.size, 1, none⟩ = some (.slice a n c) := hs.b1.cell (k := 1) rfl
  have y3 : wr.cell? ⟨w.heap.size + 2, 1, none⟩ = some (.slice va k vc) := hs.b3.cell (k := 1) rfl
  clear hs hlm
  by_cases hlt : k < n
  ·have hki : (k : Int) < (n : Int) := by omega
   rcases HAW.out.lies.lie with e | ⟨g, off, rfl, hc⟩
   ·have := HL.out; rw [e] at this; simp at this; omega
   obtain ⟨c0, c1, c2, c3, c4, c5, c6, c7, c8, c9, c10⟩ := hc k (by have := HL.out; omega)
   have hmem := yJ (L := L) (k := k) (by have := HL.out; omega)
   obtain ⟨b, d, e2, hnone, hroom⟩ := HAW.out.shp _ hmem
   have hint := HAW.out.lies.nums _ hmem
   rw [e2] at c3 hint
   have HLE : Hid (∀ W, Below wr.heap.size wr W -> Calls Try.prog 12 #[.slice b (yV L k).1.nums.length d] W (fun e w' => ∃ g, e = .returned (.slice (some ⟨g, 0, none⟩) (yV L k).1.nums.length ((yV L k).1.nums.length + 4)) /\ Below W.heap.size W w' /\ yC W.heap.size w' (.slice (some ⟨g, 0, none⟩) (yV L k).1.nums.length ((yV L k).1.nums.length + 4)) (yV L k).1.nums /\ W.heap.size <= g /\ At w' (some ⟨g, 0, none⟩) ((yV L k).1.nums ++ [-7770777, -7770777, -7770777, -7770777]))) := fun W hb =>
    (cZ b (yV L k).1.nums (yV L k).1.nums.length d W (pI (hint.below hb) hnone hroom (HM.out _ hmem) (HAW.out.fits _ hmem).2.2)).mono fun e w' ⟨g, h1, h2, h3, h4⟩ => ⟨g, h1, h3, h4, h2.1, h2.2.2⟩
   have HTK : Hid ((L.take (k + 1)).map Prod.fst = (L.take k).map Prod.fst ++ [(yV L k).1])   := kE (by have := HL.out; omega)
   clear hc e2 hint hmem hnone hroom
   generalize (yV L k).1 = x at *
   obtain ⟨ki, xn, xt, ns, ⟨fn, fp, fa⟩, ⟨tn, tp, ta⟩, pl⟩ := x
   simp only at c0 c1 c2 c3 c4 c5 c6 c7 c8 c9 c10 HLE
   generalize hnl : ns.length = nl at *
   have HNL := zZ hnl
   clear hnl
   go_wp2_with (first
    | (at_builtin; refine zJ _ rfl _ _ 22 rfl (w.heap.size + 3) 45 i0 (.agg #[.int .u8 0, .string ⟨#[]⟩, .string ⟨#[]⟩, .slice none 0 0, .string ⟨#[]⟩, .int .i64 0, .int .i64 0, .string ⟨#[]⟩, .int .i64 0, .int .i64 0, .int .i64 0]) 11 136 Try.underlying22 HJ.out HJ0.out HJ1.out HJ2.out rfl (by decide) (.slice va k vc) k (M.flatMap tL) rfl (by have q := (HS.out.its.below ((HB2.out.setCell (p := ⟨wr.heap.size, 3, none⟩) (Nat.le_refl _) (.slice (some ⟨gl, 0, none⟩) nl (nl + 4))).alloc (by have := HB2.out.size; simp; omega) (.cells #[.int .u8 ki, .string (zW xn), .string (zW xt), .slice (some ⟨gl, 0, none⟩) nl (nl + 4), .string (zW fn), .int .i64 fp, .int .i64 fa, .string (zW tn), .int .i64 tp, .int .i64 ta, .int .i64 pl] 45))).row; rw [HS.out.len] at q; exact q) ⟨w2.heap.size, 0, none⟩ 1 1 (by decide) (tL (⟨ki, xn, xt, ns, ⟨fn, fp, fa⟩, ⟨tn, tp, ta⟩, pl⟩, .slice (some ⟨gl, 0, none⟩) nl (nl + 4))) rfl rfl (by have q := UX (w2.setCell ⟨wr.heap.size, 3, none⟩ (.slice (some ⟨gl, 0, none⟩) nl (nl + 4))) 45 (.int .u8 ki) (.string (zW xn)) (.string (zW xt)) (.slice (some ⟨gl, 0, none⟩) nl (nl + 4)) (.string (zW fn)) (.int .i64 fp) (.int .i64 fa) (.string (zW tn)) (.int .i64 tp) (.int .i64 ta) (.int .i64 pl); have e9 : (w2.setCell ⟨wr.heap.size, 3, none⟩ (.slice (some ⟨gl, 0, none⟩) nl (nl + 4))).heap.size = w2.heap.size := (by simp); rw [e9] at q; exact q) (rH _ _ _ _) (by unfold maxLen; omega) (by omega) (by have := HB2.out.size; have := HS.out.big; simp; omega) ?_; intro v4 w4 ho ht; have HO := zZ ho; have HT := zZ ht; obtain ⟨hbk, va4, vc4, rfl⟩ := HS.out.blk3 ((HB2.out.setCell (p := ⟨wr.heap.size, 3, none⟩) (Nat.le_refl _) (.slice (some ⟨gl, 0, none⟩) nl (nl + 4))).alloc (by have := HB2.out.size; simp; omega) (.cells #[.int .u8 ki, .string (zW xn), .string (zW xt), .slice (some ⟨gl, 0, none⟩) nl (nl + 4), .string (zW fn), .int .i64 fp, .int .i64 fa, .string (zW tn), .int .i64 tp, .int .i64 ta, .int .i64 pl] 45)) ht; have z1 : w4.cell? ⟨w.heap.size + 1 + 1, 1, none⟩ = some (.slice va k vc) := hbk.cell (k := 1) rfl; have z2 : w4.frozen? ⟨w.heap.size + 1 + 1, 1, none⟩ = false := hbk.frozen 1; clear ho ht hbk)
    | (go_at_call 12; (with_reducible refine (HLE.out _ ((Below.refl _ _).alloc (Nat.le_refl _) _)).mono ?_); rintro e w2 ⟨gl, rfl, b2, hI, hgl, hmk⟩; have HMK := zZ hmk; have HGL := zZ hgl; clear hmk hgl; have BK := zZ ((zU 45 wr #[.int .u8 ki, .string (zW xn), .string (zW xt), .slice b nl d, .string (zW fn), .int .i64 fp, .int .i64 fa, .string (zW tn), .int .i64 tp, .int .i64 ta, .int .i64 pl]).below b2); have HI2 := zZ hI; have HB2 : Hid (Below wr.heap.size wr w2) := ((Below.refl wr.heap.size wr).alloc (Nat.le_refl _) _).trans (b2.mono (by simp)); have f3 := BK.out.frozen 3; have j3 : w2.cell? ⟨w.heap.size + 1 + 1, 1, none⟩ = some (.slice va k vc) := zX HB2.out y3; have ne1 : ¬ (w.heap.size + 1 + 1 = wr.heap.size) := (by have := HS.out.big; omega); have ne2 : ¬ (wr.heap.size = w.heap.size + 1 + 1) := (by have := HS.out.big; omega); have k0 : w2.cell? ⟨wr.heap.size, 0, none⟩ = some (.int .u8 ki) := BK.out.cell (k := 0) rfl; have k1 : w2.cell? ⟨wr.heap.size, 1, none⟩ = some (.string (zW xn)) := BK.out.cell (k := 1) rfl; have k2 : w2.cell? ⟨wr.heap.size, 2, none⟩ = some (.string (zW xt)) := BK.out.cell (k := 2) rfl; have k3 : w2.cell? ⟨wr.heap.size, 3, none⟩ = some (.slice b nl d) := BK.out.cell (k := 3) rfl; have k4 : w2.cell? ⟨wr.heap.size, 4, none⟩ = some (.string (zW fn)) := BK.out.cell (k := 4) rfl; have k5 : w2.cell? ⟨wr.heap.size, 5, none⟩ = some (.int .i64 fp) := BK.out.cell (k := 5) rfl; have k6 : w2.cell? ⟨wr.heap.size, 6, none⟩ = some (.int .i64 fa) := BK.out.cell (k := 6) rfl; have k7 : w2.cell? ⟨wr.heap.size, 7, none⟩ = some (.string (zW tn)) := BK.out.cell (k := 7) rfl; have k8 : w2.cell? ⟨wr.heap.size, 8, none⟩ = some (.int .i64 tp) := BK.out.cell (k := 8) rfl; have k9 : w2.cell? ⟨wr.heap.size, 9, none⟩ = some (.int .i64 ta) := BK.out.cell (k := 9) rfl; have k10 : w2.cell? ⟨wr.heap.size, 10, none⟩ = some (.int .i64 pl) := BK.out.cell (k := 10) rfl; clear b2 hI))
   go_roundg (n - (k + 1))
   case measure => omega
   case rel =>
    refine ⟨k + 1, va4, vc4, M ++ [(⟨ki, xn, xt, ns, ⟨fn, fp, fa⟩, ⟨tn, tp, ta⟩, pl⟩, .slice (some ⟨gl, 0, none⟩) nl (nl + 4))], by omega, rfl, by go_num, ?_, ?_⟩
    ·have hl := HS.out.len
     refine HS.out.put ((HB2.out.setCell (p := ⟨wr.heap.size, 3, none⟩) (Nat.le_refl _) (.slice (some ⟨gl, 0, none⟩) nl (nl + 4))).alloc (by have := HB2.out.size; simp; omega) (.cells #[.int .u8 ki, .string (zW xn), .string (zW xt), .slice (some ⟨gl, 0, none⟩) nl (nl + 4), .string (zW fn), .int .i64 fp, .int .i64 fa, .string (zW tn), .int .i64 tp, .int .i64 ta, .int .i64 pl] 45)) (x := ⟨ki, xn, xt, ns, ⟨fn, fp, fa⟩, ⟨tn, tp, ta⟩, pl⟩) (q := .slice (some ⟨gl, 0, none⟩) nl (nl + 4)) (m := wr.heap.size + 1) ?_ (by omega) (by rw [hl]; exact HO.out) (by rw [hl]; exact HT.out) rfl (by rw [List.map_append, HS.out.same, HTK.out]; rfl) (by simp; omega)
     have q : yC (wr.heap.size + 1) w2 (.slice (some ⟨gl, 0, none⟩) nl (nl + 4)) ns := by have := HI2.out; simp at this; exact this
     exact (q.put (by omega)).below ((Below.refl _ _).alloc (Nat.le_refl _) _)
    have hl := HS.out.len
    have hgl : wr.heap.size + 1 <= gl := by have := HGL.out; simp at this; exact this
    have hlt2 : gl < w2.heap.size := by
     rcases HMK.out with e | ⟨b, o, e, hc⟩
     ·exact absurd (congrArg List.length e) (by simp)
     cases e
     exact block_lt_of_cell (hc 0 (by simp))
    have hat := ((HMK.out.block8 (w' := w2.setCell ⟨wr.heap.size, 3, none⟩ (.slice (some ⟨gl, 0, none⟩) nl (nl + 4))) fun x hx => by cases hx; exact Below.heap_setCell _ _ _ _ (by show gl ≠ wr.heap.size; omega)).below ((Below.refl _ _).alloc (Nat.le_refl _) (.cells #[.int .u8 ki, .string (zW xn), .string (zW xt), .slice (some ⟨gl, 0, none⟩) nl (nl + 4), .string (zW fn), .int .i64 fp, .int .i64 fa, .string (zW tn), .int .i64 tp, .int .i64 ta, .int .i64 pl] 45)))
    have r := LM.put HS.out HLM.out (x := ⟨ki, xn, xt, ns, ⟨fn, fp, fa⟩, ⟨tn, tp, ta⟩, pl⟩) (g := gl) ((HB2.out.setCell (p := ⟨wr.heap.size, 3, none⟩) (Nat.le_refl _) (.slice (some ⟨gl, 0, none⟩) nl (nl + 4))).alloc (by have := HB2.out.size; simp; omega) (.cells #[.int .u8 ki, .string (zW xn), .string (zW xt), .slice (some ⟨gl, 0, none⟩) nl (nl + 4), .string (zW fn), .int .i64 fp, .int .i64 fa, .string (zW tn), .int .i64 tp, .int .i64 ta, .int .i64 pl] 45)) (by omega) (by simp; omega) hat (by rw [hl]; exact HT.out)
    rw [HNL.out] at r
    exact r
  have ek : k = n := by omega
  subst ek
  have hki : ¬ ((k : Int) < (k : Int)) := by omega
  have y3' : wr.cell? ⟨w.heap.size + 1 + 1, 1, none⟩ = some (.slice va k vc) := y3
  go_wp2_with (at_builtin; refine zJ _ rfl _ _ 22 rfl (w.heap.size + 3) 45 i0 (.agg #[.int .u8 0, .string ⟨#[]⟩, .string ⟨#[]⟩, .slice none 0 0, .string ⟨#[]⟩, .int .i64 0, .int .i64 0, .string ⟨#[]⟩, .int .i64 0, .int .i64 0, .int .i64 0]) 11 136 Try.underlying22 HJ.out HJ0.out HJ1.out HJ2.out rfl (by decide) (.slice va k vc) k (M.flatMap tL) rfl (by have q := (HS.out.its.below ((Below.refl wr.heap.size wr).alloc (Nat.le_refl _) (.cells #[.int .u8 99, .string ⟨#[]⟩, .string ⟨#[]⟩, .slice none 0 0, .string ⟨#[]⟩, .int .i64 0, .int .i64 0, .string ⟨#[]⟩, .int .i64 0, .int .i64 0, .int .i64 0] 45))).row; rw [HS.out.len] at q; exact q) ⟨wr.heap.size, 0, none⟩ 1 1 (by decide) (tL (oZ, .slice none 0 0)) rfl rfl (UX wr 45 (.int .u8 99) (.string ⟨#[]⟩) (.string ⟨#[]⟩) (.slice none 0 0) (.string ⟨#[]⟩) (.int .i64 0) (.int .i64 0) (.string ⟨#[]⟩) (.int .i64 0) (.int .i64 0) (.int .i64 0)) (rH _ _ _ _) (by unfold maxLen; omega) (by omega) (by have := HS.out.big; simp; omega) ?_; intro v4 w4 ho ht; have HO := zZ ho; have HT := zZ ht; obtain ⟨hbk, va4, vc4, rfl⟩ := HS.out.blk3 ((Below.refl wr.heap.size wr).alloc (Nat.le_refl _) (.cells #[.int .u8 99, .string ⟨#[]⟩, .string ⟨#[]⟩, .slice none 0 0, .string ⟨#[]⟩, .int .i64 0, .int .i64 0, .string ⟨#[]⟩, .int .i64 0, .int .i64 0, .int .i64 0] 45)) ht; obtain ⟨hb1, hb2⟩ := HS.out.blks ((Below.refl wr.heap.size wr).alloc (Nat.le_refl _) (.cells #[.int .u8 99, .string ⟨#[]⟩, .string ⟨#[]⟩, .slice none 0 0, .string ⟨#[]⟩, .int .i64 0, .int .i64 0, .string ⟨#[]⟩, .int .i64 0, .int .i64 0, .int .i64 0] 45)) ht; have hcap := dO ho (Nat.succ_pos _); have z0 : w4.cell? ⟨w.heap.size + 1 + 1, 0, none⟩ = some (.string (zW nm)) := hbk.cell (k := 0) rfl; have z1 : w4.cell? ⟨w.heap.size + 1 + 1, 1, none⟩ = some (.slice va k vc) := hbk.cell (k := 1) rfl; have z2 : w4.frozen? ⟨w.heap.size + 1 + 1, 1, none⟩ = false := hbk.frozen 1; have x1 : w4.cell? ⟨w.heap.size, 1, none⟩ = some (.slice a k c) := hb1.cell (k := 1) rfl; have u0 : w4.cell? ⟨w.heap.size + 1, 0, none⟩ = some (.string ⟨#[]⟩) := hb2.cell (k := 0) rfl; have u1 : w4.cell? ⟨w.heap.size + 1, 1, none⟩ = some (.slice none 0 0) := hb2.cell (k := 1) rfl; have u2 : w4.frozen? ⟨w.heap.size + 1, 0, none⟩ = false := hb2.frozen 0; have u3 : w4.frozen? ⟨w.heap.size + 1, 1, none⟩ = false := hb2.frozen 1; have cI : (k : Int) <= (vc4 : Int) := (by omega); have cJ : (k : Int) + 1 <= (vc4 : Int) := (by omega); clear ho ht hbk hb1 hb2)
  have hl := HS.out.len
  have hlen : (M ++ [(oZ, Value.slice none 0 0)]).length = k + 1 := by simp; omega
  have E5 : bA w nm a k c (M ++ [(oZ, Value.slice none 0 0)]) (k + 1) (.slice va4 (k + 1) vc4) (M ++ [(oZ, Value.slice none 0 0)]) (w4.setCell ⟨w.heap.size + 2, 1, none⟩ (.slice va4 (k + 1) vc4)) :=
   HS.out.put ((Below.refl wr.heap.size wr).alloc (Nat.le_refl _) (.cells #[.int .u8 99, .string ⟨#[]⟩, .string ⟨#[]⟩, .slice none 0 0, .string ⟨#[]⟩, .int .i64 0, .int .i64 0, .string ⟨#[]⟩, .int .i64 0, .int .i64 0, .int .i64 0] 45)) (x := oZ) (q := .slice none 0 0) (m := wr.heap.size) (World.ownsRow_nil _ _ _ _) (Nat.le_refl _) (by rw [hl]; exact HO.out) (by rw [hl]; exact HT.out) rfl (by rw [List.take_of_length_le (by omega)]) hlen
  have i7 := ((E5.its.put (I := w.heap.size + 2) (k := 1) (u := .slice va4 k vc4) (by omega)).put (I := w.heap.size + 1) (k := 0) (u := .string (zW nm)) (by omega)).put (I := w.heap.size + 1) (k := 1) (u := .slice va4 k vc4) (by omega)
  have r7 := (rA.at5 (c := vc4) (L := M ++ [(oZ, Value.slice none 0 0)]) (by rw [hlen]; exact i7))
  refine bodyPost_ret (v := .agg #[.string (zW nm), .slice va4 k vc4]) (by simp [results, Try.results5, go_sem, u0, u1]) rfl ⟨va4, vc4, M, rfl, ?_, hl, r7, ?_, hcap, ?_⟩
  ·rw [HS.out.same, List.take_of_length_le (by have := HL.out; omega)]
  ·have r := LM.go HS.out HLM.out ((Below.refl wr.heap.size wr).alloc (Nat.le_refl _) (.cells #[.int .u8 99, .string ⟨#[]⟩, .string ⟨#[]⟩, .slice none 0 0, .string ⟨#[]⟩, .int .i64 0, .int .i64 0, .string ⟨#[]⟩, .int .i64 0, .int .i64 0, .int .i64 0] 45)) (by rw [hl]; exact HT.out) (v' := .slice va4 (k + 1) vc4)
   exact ((r.set (by omega) _ _).set (by omega) _ _).set (by omega) _ _
  exact ((E5.bel.setCell (p := ⟨w.heap.size + 2, 1, none⟩) (by show w.heap.size <= w.heap.size + 2; omega) _).setCell (p := ⟨w.heap.size + 1, 0, none⟩) (Nat.le_succ _) _).setCell (p := ⟨w.heap.size + 1, 1, none⟩) (Nat.le_succ _) _
def TL (B : Nat) (T : TypeId) (cs : Array Value) (u : World) (v : Value) : Prop := ∃ xb, v = .pointer (some ⟨xb, 0, none⟩) /\ B <= xb /\ zN T xb u cs
theorem TL.later {B : Nat} {T : TypeId} {cs : Array Value} {u u' : World} {v : Value} (h : TL B T cs u v) (hb : Below u.heap.size u u') : TL B T cs u' v := by
 obtain ⟨xb, h1, h2, h3⟩ := h
 exact ⟨xb, h1, h2, h3.below hb⟩
theorem qW.ints {S : TypeId} {w0 V u : World} {hb : Nat} {c f : Nat} {cs : Array Value} {v : Value} {n : Nat} {xs e : List Value} (h : qW S w0 V hb 45 c cs v n xs) (ap : eZ (fun _ es => es = e) V w0.heap.size 45 c v n xs S hb f cs u) {r : Value} {ns : List Int} (hI : yC w0.heap.size V r ns) : yC w0.heap.size u r ns := by
 obtain ⟨es, w1, u1, z, hD, hbut, hblk⟩ := ap
 have hold := h.old
 refine zV hI fun k hk => ?_
 have hlt := zR hI k hk
 have hge := zT hI k hk
 have hne : v.ownBlock ≠ some k := fun e => by
  rcases hI.2 with ⟨hv, -⟩ | ⟨g, cap, cur, hv, hg, hh, -⟩
  ·rw [hv] at hk; cases hk
  rw [hv] at hk
  cases hk
  exact rT h.row (hb := g) (S := 3) (cs := cur) hh (by decide) g e rfl
 exact (hbut.block k (Nat.lt_of_lt_of_le hlt hD.chg.size) (by omega)).trans (hD.chg.block k hlt hne)
end Go.Proofs.Ytgoconkleicmkaa

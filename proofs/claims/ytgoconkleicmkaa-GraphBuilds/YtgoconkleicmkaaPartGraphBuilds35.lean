/- Texts of one chain. -/
import Derived.Test.YtgoconkleicmkaaPartQ
import Derived.Test.YtgoconkleicmkaaPartGraphBuilds34
import Derived.Test.YtgoconkleicmkaaPartGraphBuilds32
import Derived.Test.YtgoconkleicmkaaPartGraphBuilds26
import Derived.Test.YtgoconkleicmkaaPartGraphBuilds30
import Derived.Laws.AppendOwnNone
set_option maxRecDepth 100000
set_option maxHeartbeats 32000000
namespace Go.Proofs.Ytgoconkleicmkaa
open Go.ChangeShapes Go.WideShapes Go.ChangeAt Go.RowKit
theorem bK (B n : Nat) (u : Value) (W0 wr : World) (L : List El) (hL : L.length = n) (hn : n <= 1000) (HALL : wr.ownsRow W0.heap.size 41 1 u n (L.map Prod.snd)) (hbw : Below W0.heap.size W0 wr) (RW : Rws B W0 L) (hB : B <= W0.heap.size) :
 Calls Try.prog 29 #[u] wr fun e w' => e = .returned (.bool true) /\ Below B W0 w' /\ ∀ k, k < W0.heap.size -> (∀ p ∈ L, p.2.ownBlock ≠ some k) -> w'.heap[k]? = W0.heap[k]? := by
 have hs := hbw.size
 have RW2 : Rws B wr L := ⟨fun p hp => (RW.nums p hp).below hbw, RW.pair, RW.short⟩
 rcases HALL.2 with ⟨e1, e0⟩ | ⟨G, cap, cur, e1, hG, hh, -⟩
 ·rw [e1]
  exact (cC wr).mono fun _ _ ⟨h1, h2⟩ => ⟨h1, (hbw.mono hB).trans (h2.mono (by omega)), fun k hk _ => (h2.block k (by omega)).trans (hbw.block k hk)⟩
 have hGl : G < wr.heap.size := (Array.getElem?_eq_some_iff.1 hh).1
 have hT := ZJ (G := G) RW2 (fun j hj => by
  have h1 := World.ownsRow.cells HALL (g := G) (by rw [e1]; rfl) j ((L.map Prod.snd)[j]'(by simpa using hj)) (List.getElem?_eq_getElem (by simpa using hj))
  rw [xC] at h1
  rw [h1, lY hj, List.getElem_map]) (fun p hp e => by
  have := zR (RW.nums p hp) G e
  omega) hGl (by omega) (by rw [hL]; omega)
 rw [hL] at hT
 rw [e1]
 refine (iK B G n cap _ _ _ _ wr hT).mono fun _ w' ⟨h1, h2, h3⟩ => ⟨h1, (hbw.mono hB).trans h2, fun k hk hne => (h3 k (by omega) fun j x hj hx e => ?_).trans (hbw.block k hk)⟩
 have hj' : j < L.length := by rw [hL]; exact hj
 exact hne _ (yJ hj') (by rw [(RW.nums _ (yJ hj')).own hx, e])
theorem oL.at {B w wr g n cap ys b} (h : oL B w wr b (.slice (some ⟨g, 0, none⟩) n cap) ys) (k : Nat) (hk : k < ys.length) : uK wr g (k * 11) (yV ys k) := h.own.cellsAt k hk
theorem lN {α : Type} (f : α -> List Value) (s : Nat) (hf : ∀ x, (f x).length = s) : ∀ (L : List α) (k j : Nat) (hk : k < L.length), j < s -> (L.flatMap f)[k * s + j]? = (f (L[k]))[j]?
 | [], k, _, hk, _ => absurd hk (Nat.not_lt_zero _)
 | x :: r, 0, j, _, hj => by
  rw [List.flatMap_cons, Nat.zero_mul, Nat.zero_add, List.getElem?_append_left (by rw [hf]; exact hj)]
  rfl
 | x :: r, k + 1, j, hk, hj => by
  rw [List.flatMap_cons, List.getElem?_append_right (by rw [hf, Nat.succ_mul]; omega)]
  have e : (k + 1) * s + j - (f x).length = k * s + j := by rw [hf, Nat.succ_mul]; omega
  rw [e, lN f s hf r k j (Nat.lt_of_succ_lt_succ hk) hj]
  rfl
theorem fY {α : Type} {L : List (α × Value)} {k : Nat} (hk : k < L.length) : (L.map Prod.snd).take (k + 1) = (L.map Prod.snd).take k ++ [(L[k]).2] := by
 rw [List.take_add_one, List.getElem?_map, List.getElem?_eq_getElem hk]
 rfl
theorem jV (a : Option Addr) (n c : Nat) : ∀ u ∈ [Value.slice a n c], u.oneCell' = true := by
 intro u hu
 rw [List.mem_singleton.1 hu]
 rfl
def VO (w : World) (n : Nat) (VS : List Value) (e : Ending) (w' : World) : Prop := ∃ u, e = .returned u /\ w'.ownsRow w.heap.size 41 1 u n VS /\ Below w.heap.size w w'
theorem jU (B : Nat) (nv v3 v4 : Value) (x1 x2 : Option Addr) (d1 d2 : Nat) (As : List (GA × Value)) (Es : List (GE × Value)) (w : World) (h1 : w.ownsRow B 61 3 (.slice x1 As.length d1) As.length (As.flatMap aP)) (h2 : w.ownsRow B 64 5 (.slice x2 Es.length d2) Es.length (Es.flatMap eP)) (hsA : ∀ p ∈ As, ∃ a n c, p.2 = .slice a n c) (hsE : ∀ p ∈ Es, ∃ a n c, p.2 = .slice a n c) (hA : As.length <= 1000) (hE : Es.length <= 1000) :
 Calls Try.prog 28 #[.agg #[nv, .slice x1 As.length d1, .slice x2 Es.length d2, v3, v4]] w (VO w (As.length + Es.length) (As.map Prod.snd ++ Es.map Prod.snd)) := by
 obtain ⟨RE, hRE⟩ : ∃ R, VO w (As.length + Es.length) (As.map Prod.snd ++ Es.map Prod.snd) = R := ⟨_, rfl⟩
 rw [hRE]
 have HRE := zZ hRE
 have R1 := zZ h1
 have R2 := zZ h2
 have SA := zZ hsA
 have SE := zZ hsE
 obtain ⟨i0, hi, hz0, hz1, hz2⟩ := info_parts Try.info41
 have HI := zZ hi
 have HI0 := zZ hz0
 have HI1 := zZ hz1
 have HI2 := zZ hz2
 obtain ⟨n1, hn1⟩ : ∃ n, As.length = n := ⟨_, rfl⟩
 obtain ⟨n2, hn2⟩ : ∃ n, Es.length = n := ⟨_, rfl⟩
 have L1 := zZ hn1
 have L2 := zZ hn2
 rw [hn1] at hA
 rw [hn2] at hE
 have X0 := zZ (zU 31 w #[nv, .slice x1 As.length d1, .slice x2 Es.length d2, v3, v4])
 have B0 := zZ ((Below.refl w.heap.size w).alloc (Nat.le_refl _) (.cells #[nv, .slice x1 As.length d1, .slice x2 Es.length d2, v3, v4] 31))
 rw [hn1, hn2] at X0 B0 ⊢
 clear h1 h2 hsA hsE hRE hi hz0 hz1 hz2 hn1 hn2
 have i1 : (n1 : Int) <= 1000 := by omega
 have i2 : (n2 : Int) <= 1000 := by omega
 go_enter Try.func28, Try.ntmps28
 go_upto_region 1 with fail
 generalize w.alloc (.cells #[nv, .slice x1 n1 d1, .slice x2 n2 d2, v3, v4] 31) = W0 at *
 go_wp2
 go_loopg [3, 4] n1 (fun gk u v wr => ∃ k : Nat, k <= n1 /\ gk = n1 - k /\ v = .int .i64 (k : Int) /\ wr.ownsRow W0.heap.size 41 1 u k ((As.map Prod.snd).take k) /\ Below W0.heap.size W0 wr)
 case atStart => exact ⟨0, Nat.zero_le _, rfl, rfl, World.ownsRow_nil _ _ _ _, Below.refl _ _⟩
 case round =>
  obtain ⟨k, hk, rfl, rfl, hro, hbw⟩ := hrel
  obtain ⟨ua, uc, rfl⟩ := zC hro
  have HROW := zZ hro
  have HBW := zZ hbw
  clear hro hbw
  have XB := zZ (X0.out.below HBW.out)
  have y1 : wr.cell? ⟨w.heap.size, 1, none⟩ = some (.slice x1 n1 d1) := XB.out.cell rfl
  by_cases hlt : k < n1
  ·have hki : (k : Int) < (n1 : Int) := by omega
   have hkl : k < As.length := by rw [L1.out]; exact hlt
   have BWW := zZ (B0.out.trans (HBW.out.mono B0.out.size))
   rcases R1.out.2 with ⟨e1, e0⟩ | ⟨g, cap, cur, e1, -⟩
   ·rw [e0] at hkl; exact absurd hkl (Nat.not_lt_zero _)
   simp only [Value.slice.injEq] at e1
   obtain ⟨e1, -, -⟩ := e1
   have r1 := R1.out
   rw [e1] at r1
   have cc := r1.cellAt (k * 3 + 2) (by omega)
   rw [lN aP 3 sA As k 2 hkl (by decide)] at cc
   obtain ⟨ra, rl, rc, hsl⟩ := SA.out _ (List.getElem_mem hkl)
   have cc2 : w.cell? ⟨g, k * 3 + 2, none⟩ = some (.slice ra rl rc) := by rw [cc, <- hsl]; rfl
   have c9 := zX BWW.out cc2
   have TK := zZ (fY hkl)
   rw [hsl] at TK
   subst e1
   clear r1 cc cc2 hsl
   have ONE := jV ra rl rc
   go_wp2_with (at_builtin; refine wpList_append_own _ rfl (.tmp 13) (.tmp 20) 70 rfl W0.heap.size 41 i0 (.slice none 0 0) 1 24 Try.underlying70 HI.out HI0.out HI1.out HI2.out rfl (by decide) _ k _ rfl (zS HROW.out ((Below.refl _ _).alloc (Nat.le_refl _) _)) ⟨wr.heap.size, 0, none⟩ 1 1 [.slice ra rl rc] rfl rfl (dK wr _ _) ONE (by unfold maxLen; omega) (by omega) (by have := HBW.out.size; simp; omega) ?_; intro r8 v8 hown hgrow _; have O8 := zZ hown; have B8 : Hid (Below W0.heap.size W0 v8) := zH (HBW.out.trans (((Below.refl _ _).alloc (Nat.le_refl _) _).mono HBW.out.size)) hgrow (zT HROW.out) (by have := HBW.out.size; simp; omega); clear hown hgrow)
   go_roundg (n1 - (k + 1))
   case measure => omega
   case rel => exact ⟨k + 1, by omega, rfl, by go_num, by rw [TK.out]; exact O8.out, B8.out⟩
  have ek : n1 = k := by omega
  subst ek
  have hki : ¬ (n1 : Int) < (n1 : Int) := by omega
  have eA : (As.map Prod.snd).take n1 = As.map Prod.snd := List.take_of_length_le (by rw [List.length_map, L1.out]; exact Nat.le_refl _)
  rw [eA] at HROW
  clear eA hlt hk
  go_wp2
  clear y1 XB
  obtain ⟨wa, hwa⟩ : ∃ wa, wr = wa := ⟨_, rfl⟩
  rw [hwa] at HROW HBW ⊢
  clear hwa
  go_loopg [3, 5] n2 (fun gk u v wr => ∃ k : Nat, k <= n2 /\ gk = n2 - k /\ v = .int .i64 (k : Int) /\ wr.ownsRow W0.heap.size 41 1 u (n1 + k) (As.map Prod.snd ++ (Es.map Prod.snd).take k) /\ Below W0.heap.size W0 wr)
  case atStart => exact ⟨0, Nat.zero_le _, rfl, rfl, by rw [List.take_zero, List.append_nil]; exact HROW.out, HBW.out⟩
  case round =>
   clear HROW HBW
   obtain ⟨k, hk, rfl, rfl, hro, hbw⟩ := hrel
   obtain ⟨ua, uc, rfl⟩ := zC hro
   have HROW := zZ hro
   have HBW := zZ hbw
   clear hro hbw
   have XB := zZ (X0.out.below HBW.out)
   have y2 : wr.cell? ⟨w.heap.size, 2, none⟩ = some (.slice x2 n2 d2) := XB.out.cell rfl
   by_cases hlt : k < n2
   ·have hkj : (k : Int) < (n2 : Int) := by omega
    have hkl : k < Es.length := by rw [L2.out]; exact hlt
    have BWW := zZ (B0.out.trans (HBW.out.mono B0.out.size))
    rcases R2.out.2 with ⟨e1, e0⟩ | ⟨g, cap, cur, e1, -⟩
    ·rw [e0] at hkl; exact absurd hkl (Nat.not_lt_zero _)
    simp only [Value.slice.injEq] at e1
    obtain ⟨e1, -, -⟩ := e1
    have r1 := R2.out
    rw [e1] at r1
    have cc := r1.cellAt (k * 5 + 4) (by omega)
    rw [lN eP 5 tQ Es k 4 hkl (by decide)] at cc
    obtain ⟨ra, rl, rc, hsl⟩ := SE.out _ (List.getElem_mem hkl)
    have cc2 : w.cell? ⟨g, k * 5 + 4, none⟩ = some (.slice ra rl rc) := by rw [cc, <- hsl]; rfl
    have c9 := zX BWW.out cc2
    have TK := zZ (fY hkl)
    rw [hsl] at TK
    subst e1
    clear r1 cc cc2 hsl
    have ONE := jV ra rl rc
    go_wp2_with (at_builtin; refine wpList_append_own _ rfl (.tmp 29) (.tmp 36) 70 rfl W0.heap.size 41 i0 (.slice none 0 0) 1 24 Try.underlying70 HI.out HI0.out HI1.out HI2.out rfl (by decide) _ (n1 + k) _ rfl (zS HROW.out ((Below.refl _ _).alloc (Nat.le_refl _) _)) ⟨wr.heap.size, 0, none⟩ 1 1 [.slice ra rl rc] rfl rfl (dK wr _ _) ONE (by unfold maxLen; omega) (by omega) (by have := HBW.out.size; simp; omega) ?_; intro r8 v8 hown hgrow _; have O8 := zZ hown; have B8 : Hid (Below W0.heap.size W0 v8) := zH (HBW.out.trans (((Below.refl _ _).alloc (Nat.le_refl _) _).mono HBW.out.size)) hgrow (zT HROW.out) (by have := HBW.out.size; simp; omega); clear hown hgrow)
    go_roundg (n2 - (k + 1))
    case measure => omega
    case rel => exact ⟨k + 1, by omega, rfl, by go_num, by rw [TK.out, <- List.append_assoc]; exact O8.out, B8.out⟩
   have ek : n2 = k := by omega
   subst ek
   have hkj : ¬ (n2 : Int) < (n2 : Int) := by omega
   have eE : (Es.map Prod.snd).take n2 = Es.map Prod.snd := List.take_of_length_le (by rw [List.length_map, L2.out]; exact Nat.le_refl _)
   rw [eE] at HROW
   clear eE
   go_wp2
   rw [<- HRE.out]
   exact ⟨_, rfl, by rw [L1.out, L2.out]; exact xK HROW.out B0.out.size, B0.out.trans (HBW.out.mono B0.out.size)⟩
def mA (t : Nat) : List Value := [.string ⟨#[]⟩, .int .u8 (t : Int), .slice none 0 0]
def mE (t : Nat) : List Value := [.int .i64 (t : Int), .int .i64 0, .int .i64 0, .int .i64 0, .slice none 0 0]
def mP (t q : Nat) : List Value := [.string ⟨#[]⟩, .int .i64 (t : Int), .int .i64 (q : Int)]
def zD (k : Nat) (m : List Value) : List Value := (List.replicate k m).flatten
theorem xG {m : List Value} {s : Nat} (hm : m.length = s) : ∀ k, (zD k m).length = k * s
 | 0 => by simp [zD]
 | k + 1 => by unfold zD; rw [List.replicate_succ, List.flatten_cons, List.length_append, hm, Nat.succ_mul]; have := xG hm k; unfold zD at this; omega
theorem uP (k : Nat) (m : List Value) : zD (k + 1) m = zD k m ++ m := by
 unfold zD
 rw [List.replicate_succ', List.flatten_append]
 simp
theorem dE {m : List Value} {s : Nat} (hm : m.length = s) {n k j : Nat} (hk : k < n) (hj : j < s) : (zD n m)[k * s + j]? = m[j]? := by
 induction n with
 | zero => omega
 | succ n ih =>
  rw [uP]
  by_cases e : k < n
  ·rw [List.getElem?_append_left (by rw [xG hm]; have := Nat.mul_le_mul_right s (show k + 1 <= n from e); rw [Nat.succ_mul] at this; omega)]
   exact ih e
  have ek : k = n := by omega
  subst ek
  rw [List.getElem?_append_right (by rw [xG hm]; omega), xG hm]
  congr 1
  omega
theorem tU {l : List Value} {a b : Value} {r : List Value} {k : Nat} (h : l.length = k) : (l ++ a :: r).set k b = (l ++ [b]) ++ r := by
 subst h
 rw [List.set_append_right _ _ (Nat.le_refl _), Nat.sub_self, List.set_cons_zero, List.append_assoc]
 rfl
theorem YO {l r : List Value} {k : Nat} (h : l.length = k) (hr : 3 <= r.length) (a b c : Value) : (((l ++ r).set k a).set (k + 1) b).set (k + 2) c = l ++ [a, b, c] ++ r.drop 3 := by
 match r, hr with
 | x :: y :: z :: r, _ =>
  rw [tU h, tU (by simp [h]), tU (by simp [h])]
  simp
theorem set5X {l r : List Value} {k : Nat} (h : l.length = k) (hr : 5 <= r.length) (a b c d e : Value) : (((((l ++ r).set k a).set (k + 1) b).set (k + 2) c).set (k + 3) d).set (k + 4) e = l ++ [a, b, c, d, e] ++ r.drop 5 := by
 match r, hr with
 | x :: y :: z :: u :: v :: r, _ =>
  rw [tU h, tU (by simp [h]), tU (by simp [h]), tU (by simp [h]), tU (by simp [h])]
  simp
structure oW (w : World) (B : Nat) (gv : Array Value) (v1 v2 v3 v4 : Value) (n1 n2 n3 n4 : Nat) (X1 X2 X3 X4 : List Value) (wr : World) : Prop where
 gb : zN 31 w.heap.size wr gv
 r1 : wr.ownsRow B 61 3 v1 n1 X1
 r2 : wr.ownsRow B 64 5 v2 n2 X2
 r3 : wr.ownsRow B 83 3 v3 n3 X3
 r4 : wr.ownsRow B 83 3 v4 n4 X4
 n34 : NB v3 v4
 fr : ∀ k, k < w.heap.size -> v1.ownBlock ≠ some k -> v2.ownBlock ≠ some k -> v3.ownBlock ≠ some k -> v4.ownBlock ≠ some k -> wr.heap[k]? = w.heap[k]?
 bel : Below B w wr
 lo : ∀ k, (v1.ownBlock = some k \/ v2.ownBlock = some k \/ v3.ownBlock = some k \/ v4.ownBlock = some k) -> k < w.heap.size
 hB : B <= w.heap.size
theorem oW.put1 {w B gv v1 v2 v3 v4 n1 n2 n3 n4 X1 X2 X3 X4} {wr wr' : World} (h : oW w B gv v1 v2 v3 v4 n1 n2 n3 n4 X1 X2 X3 X4 wr) {g : Nat} (hv : v1.ownBlock = some g) {X' : List Value} (ho : wr'.ownsRow B 61 3 v1 n1 X') (hg : wr.grownBy wr' (some g)) : oW w B gv v1 v2 v3 v4 n1 n2 n3 n4 X' X2 X3 X4 wr' := by
 have hgl := h.lo g (.inl hv)
 have hs := h.bel.size
 have hBg := zT h.r1 g hv
 refine ⟨h.gb.keep (hg.block _ h.gb.lt (fun q => by cases q; omega)), ho, (zV h.r2 fun k e => hg.block k (zR h.r2 k e) (fun q => (zO h.r1 h.r2 (by decide)) k (by rw [hv]; exact q.symm) e)), (zV h.r3 fun k e => hg.block k (zR h.r3 k e) (fun q => (zO h.r1 h.r3 (by decide)) k (by rw [hv]; exact q.symm) e)), (zV h.r4 fun k e => hg.block k (zR h.r4 k e) (fun q => (zO h.r1 h.r4 (by decide)) k (by rw [hv]; exact q.symm) e)), h.n34, fun k hk q1 q2 q3 q4 => (hg.block k (by omega) (fun q => q1 (by rw [hv]; exact q.symm))).trans (h.fr k hk q1 q2 q3 q4), zH h.bel hg (fun k hk => by cases hk; exact hBg) (Nat.le_trans h.hB hs), h.lo, h.hB⟩
theorem oW.put2 {w B gv v1 v2 v3 v4 n1 n2 n3 n4 X1 X2 X3 X4} {wr wr' : World} (h : oW w B gv v1 v2 v3 v4 n1 n2 n3 n4 X1 X2 X3 X4 wr) {g : Nat} (hv : v2.ownBlock = some g) {X' : List Value} (ho : wr'.ownsRow B 64 5 v2 n2 X') (hg : wr.grownBy wr' (some g)) : oW w B gv v1 v2 v3 v4 n1 n2 n3 n4 X1 X' X3 X4 wr' := by
 have hgl := h.lo g (.inr (.inl hv))
 have hs := h.bel.size
 have hBg := zT h.r2 g hv
 refine ⟨h.gb.keep (hg.block _ h.gb.lt (fun q => by cases q; omega)), (zV h.r1 fun k e => hg.block k (zR h.r1 k e) (fun q => (zO h.r2 h.r1 (by decide)) k (by rw [hv]; exact q.symm) e)), ho, (zV h.r3 fun k e => hg.block k (zR h.r3 k e) (fun q => (zO h.r2 h.r3 (by decide)) k (by rw [hv]; exact q.symm) e)), (zV h.r4 fun k e => hg.block k (zR h.r4 k e) (fun q => (zO h.r2 h.r4 (by decide)) k (by rw [hv]; exact q.symm) e)), h.n34, fun k hk q1 q2 q3 q4 => (hg.block k (by omega) (fun q => q2 (by rw [hv]; exact q.symm))).trans (h.fr k hk q1 q2 q3 q4), zH h.bel hg (fun k hk => by cases hk; exact hBg) (Nat.le_trans h.hB hs), h.lo, h.hB⟩
theorem oW.put3 {w B gv v1 v2 v3 v4 n1 n2 n3 n4 X1 X2 X3 X4} {wr wr' : World} (h : oW w B gv v1 v2 v3 v4 n1 n2 n3 n4 X1 X2 X3 X4 wr) {g : Nat} (hv : v3.ownBlock = some g) {X' : List Value} (ho : wr'.ownsRow B 83 3 v3 n3 X') (hg : wr.grownBy wr' (some g)) : oW w B gv v1 v2 v3 v4 n1 n2 n3 n4 X1 X2 X' X4 wr' := by
 have hgl := h.lo g (.inr (.inr (.inl hv)))
 have hs := h.bel.size
 have hBg := zT h.r3 g hv
 refine ⟨h.gb.keep (hg.block _ h.gb.lt (fun q => by cases q; omega)), (zV h.r1 fun k e => hg.block k (zR h.r1 k e) (fun q => (zO h.r3 h.r1 (by decide)) k (by rw [hv]; exact q.symm) e)), (zV h.r2 fun k e => hg.block k (zR h.r2 k e) (fun q => (zO h.r3 h.r2 (by decide)) k (by rw [hv]; exact q.symm) e)), ho, (zV h.r4 fun k e => hg.block k (zR h.r4 k e) (fun q => h.n34 k (by rw [hv]; exact q.symm) e)), h.n34, fun k hk q1 q2 q3 q4 => (hg.block k (by omega) (fun q => q3 (by rw [hv]; exact q.symm))).trans (h.fr k hk q1 q2 q3 q4), zH h.bel hg (fun k hk => by cases hk; exact hBg) (Nat.le_trans h.hB hs), h.lo, h.hB⟩
theorem oW.put4 {w B gv v1 v2 v3 v4 n1 n2 n3 n4 X1 X2 X3 X4} {wr wr' : World} (h : oW w B gv v1 v2 v3 v4 n1 n2 n3 n4 X1 X2 X3 X4 wr) {g : Nat} (hv : v4.ownBlock = some g) {X' : List Value} (ho : wr'.ownsRow B 83 3 v4 n4 X') (hg : wr.grownBy wr' (some g)) : oW w B gv v1 v2 v3 v4 n1 n2 n3 n4 X1 X2 X3 X' wr' := by
 have hgl := h.lo g (.inr (.inr (.inr hv)))
 have hs := h.bel.size
 have hBg := zT h.r4 g hv
 refine ⟨h.gb.keep (hg.block _ h.gb.lt (fun q => by cases q; omega)), (zV h.r1 fun k e => hg.block k (zR h.r1 k e) (fun q => (zO h.r4 h.r1 (by decide)) k (by rw [hv]; exact q.symm) e)), (zV h.r2 fun k e => hg.block k (zR h.r2 k e) (fun q => (zO h.r4 h.r2 (by decide)) k (by rw [hv]; exact q.symm) e)), (zV h.r3 fun k e => hg.block k (zR h.r3 k e) (fun q => h.n34.symm k (by rw [hv]; exact q.symm) e)), ho, h.n34, fun k hk q1 q2 q3 q4 => (hg.block k (by omega) (fun q => q4 (by rw [hv]; exact q.symm))).trans (h.fr k hk q1 q2 q3 q4), zH h.bel hg (fun k hk => by cases hk; exact hBg) (Nat.le_trans h.hB hs), h.lo, h.hB⟩
def WrE (w : World) (B : Nat) (gv : Array Value) (v1 v2 v3 v4 : Value) (n1 n2 n3 n4 t : Nat) (e : Ending) (w' : World) : Prop := e = .returned (.tuple #[]) /\ oW w B gv v1 v2 v3 v4 n1 n2 n3 n4 (zD n1 (mA t)) (zD n2 (mE t)) (zD n3 (mP t 1)) (zD n4 (mP t 2)) w'
theorem jT (B : Nat) (nv : Value) (x1 x2 x3 x4 : Option Addr) (n1 n2 n3 n4 d1 d2 d3 d4 t : Nat) (X1 X2 X3 X4 : List Value) (w : World) (h1 : w.ownsRow B 61 3 (.slice x1 n1 d1) n1 X1) (h2 : w.ownsRow B 64 5 (.slice x2 n2 d2) n2 X2) (h3 : w.ownsRow B 83 3 (.slice x3 n3 d3) n3 X3) (h4 : w.ownsRow B 83 3 (.slice x4 n4 d4) n4 X4) (hn : NB (.slice x3 n3 d3) (.slice x4 n4 d4)) (hB : B <= w.heap.size) (ht : t <= 255) (l1 : n1 <= 1000) (l2 : n2 <= 1000) (l3 : n3 <= 1000) (l4 : n4 <= 1000) :
 Calls Try.prog 30 #[.agg #[nv, .slice x1 n1 d1, .slice x2 n2 d2, .slice x3 n3 d3, .slice x4 n4 d4], .int .i64 (t : Int)] w (WrE w B #[nv, .slice x1 n1 d1, .slice x2 n2 d2, .slice x3 n3 d3, .slice x4 n4 d4] (.slice x1 n1 d1) (.slice x2 n2 d2) (.slice x3 n3 d3) (.slice x4 n4 d4) n1 n2 n3 n4 t) := by
 obtain ⟨RE, hRE⟩ : ∃ R, WrE w B #[nv, .slice x1 n1 d1, .slice x2 n2 d2, .slice x3 n3 d3, .slice x4 n4 d4] (.slice x1 n1 d1) (.slice x2 n2 d2) (.slice x3 n3 d3) (.slice x4 n4 d4) n1 n2 n3 n4 t = R := ⟨_, rfl⟩
 rw [hRE]
 have HRE := zZ hRE
 have D0 : Hid (oW w B #[nv, .slice x1 n1 d1, .slice x2 n2 d2, .slice x3 n3 d3, .slice x4 n4 d4] (.slice x1 n1 d1) (.slice x2 n2 d2) (.slice x3 n3 d3) (.slice x4 n4 d4) n1 n2 n3 n4 X1 X2 X3 X4 (w.alloc (.cells #[nv, .slice x1 n1 d1, .slice x2 n2 d2, .slice x3 n3 d3, .slice x4 n4 d4] 31))) := by
  have ba := (Below.refl w.heap.size w).alloc (Nat.le_refl _) (.cells #[nv, .slice x1 n1 d1, .slice x2 n2 d2, .slice x3 n3 d3, .slice x4 n4 d4] 31)
  exact ⟨zU 31 w _, zS h1 ba, zS h2 ba, zS h3 ba, zS h4 ba, hn, fun k hk _ _ _ _ => ba.block k hk, ba.mono hB, fun k q => by
   rcases q with q | q | q | q
   ·exact zR h1 k q
   ·exact zR h2 k q
   ·exact zR h3 k q
   exact zR h4 k q, hB⟩
 have hcv : IntKind.u8.wrap (t : Int) = (t : Int) := by
  rw [IntKind.wrap_u8]
  omega
 have i1 : (n1 : Int) <= 1000 := by omega
 have i2 : (n2 : Int) <= 1000 := by omega
 have i3 : (n3 : Int) <= 1000 := by omega
 have i4 : (n4 : Int) <= 1000 := by omega
 clear h1 h2 h3 h4 hn hRE hB
 go_enter Try.func30, Try.ntmps30
 go_upto_region 1 with fail
 generalize w.alloc (.cells #[nv, .slice x1 n1 d1, .slice x2 n2 d2, .slice x3 n3 d3, .slice x4 n4 d4] 31) = W0 at *
 go_wp2
 go_loopg [4] n1 (fun gk v wr => ∃ k : Nat, k <= n1 /\ gk = n1 - k /\ v = .int .i64 (k : Int) /\ oW w B #[nv, .slice x1 n1 d1, .slice x2 n2 d2, .slice x3 n3 d3, .slice x4 n4 d4] (.slice x1 n1 d1) (.slice x2 n2 d2) (.slice x3 n3 d3) (.slice x4 n4 d4) n1 n2 n3 n4 (zD k (mA t) ++ X1.drop (k * 3)) X2 X3 X4 wr)
 case atStart => exact ⟨0, Nat.zero_le _, rfl, rfl, by rw [Nat.zero_mul, List.drop_zero]; exact D0.out⟩
 case round =>
  clear D0
  obtain ⟨k, hk, rfl, rfl, hD⟩ := hrel
  have DD := zZ hD
  clear hD
  have y1 : wr.cell? ⟨w.heap.size, 1, none⟩ = some (.slice x1 n1 d1) := DD.out.gb.cell rfl
  by_cases hlt : k < n1
  ·have hki : (k : Int) < (n1 : Int) := by omega
   have hlen := DD.out.r1.1
   have hrl : (zD k (mA t)).length = k * 3 := xG rfl k
   rcases DD.out.r1.2 with ⟨e1, e0⟩ | ⟨g, cap, cur, e1, -⟩
   ·omega
   simp only [Value.slice.injEq] at e1
   obtain ⟨e1, -, -⟩ := e1
   have rI := DD.out.r1
   rw [e1] at rI
   have z0 : ∃ u, wr.cell? ⟨g, k * 3, none⟩ = some u := by
    rw [rI.cellAt (k * 3) (by omega), List.getElem?_eq_getElem (by rw [hlen]; omega)]
    exact ⟨_, rfl⟩
   have z1 : ∃ u, wr.cell? ⟨g, k * 3 + 1, none⟩ = some u := by
    rw [rI.cellAt (k * 3 + 1) (by omega), List.getElem?_eq_getElem (by rw [hlen]; omega)]
    exact ⟨_, rfl⟩
   have z2 : ∃ u, wr.cell? ⟨g, k * 3 + 2, none⟩ = some u := by
    rw [rI.cellAt (k * 3 + 2) (by omega), List.getElem?_eq_getElem (by rw [hlen]; omega)]
    exact ⟨_, rfl⟩
   obtain ⟨u0, z0⟩ := z0
   obtain ⟨u1, z1⟩ := z1
   obtain ⟨u2, z2⟩ := z2
   have f0 := rI.frozenAt (k * 3)
   have f1 := rI.frozenAt (k * 3 + 1)
   have f2 := rI.frozenAt (k * 3 + 2)
   have NX : Hid (oW w B #[nv, .slice x1 n1 d1, .slice x2 n2 d2, .slice x3 n3 d3, .slice x4 n4 d4] (.slice x1 n1 d1) (.slice x2 n2 d2) (.slice x3 n3 d3) (.slice x4 n4 d4) n1 n2 n3 n4 (zD (k + 1) (mA t) ++ X1.drop ((k + 1) * 3)) X2 X3 X4 ((((wr.setCell ⟨g, k * 3, none⟩ (.string ⟨#[]⟩)).setCell ⟨g, k * 3 + 1, none⟩ (.int .u8 (t : Int))).setCell ⟨g, k * 3 + 2, none⟩ (.slice none 0 0)))) := by
    obtain ⟨o1, g1⟩ := World.ownsRow.stored rI (k * 3) (.string ⟨#[]⟩)
    obtain ⟨o2, g2⟩ := World.ownsRow.stored o1 (k * 3 + 1) (.int .u8 (t : Int))
    obtain ⟨o3, g3⟩ := World.ownsRow.stored o2 (k * 3 + 2) (.slice none 0 0)
    rw [YO hrl (by rw [List.length_append, hrl] at hlen; have := Nat.mul_le_mul_right 3 (show k + 1 <= n1 from hlt); rw [Nat.succ_mul] at this; omega)] at o3
    have ex : zD k (mA t) ++ [.string ⟨#[]⟩, .int .u8 (t : Int), .slice none 0 0] ++ (X1.drop (k * 3)).drop 3 = zD (k + 1) (mA t) ++ X1.drop ((k + 1) * 3) := by rw [uP, List.drop_drop, Nat.succ_mul]; rfl
    rw [ex] at o3
    rw [<- e1] at o3
    exact DD.out.put1 (by rw [e1]; rfl) o3 (Lib.grownBy_trans (Lib.grownBy_trans (g1) g2) g3)
   subst e1
   clear rI hlen hrl
   go_wp2
   go_roundg (n1 - (k + 1))
   case measure => omega
   case rel => exact ⟨k + 1, by omega, rfl, by go_num, NX.out⟩
  have ek : n1 = k := by omega
  have hki : ¬ (k : Int) < (n1 : Int) := by omega
  have D1 : Hid (oW w B #[nv, .slice x1 n1 d1, .slice x2 n2 d2, .slice x3 n3 d3, .slice x4 n4 d4] (.slice x1 n1 d1) (.slice x2 n2 d2) (.slice x3 n3 d3) (.slice x4 n4 d4) n1 n2 n3 n4 (zD n1 (mA t)) X2 X3 X4 wr) := by
   have q := DD.out
   have hl := q.r1.1
   rw [List.length_append, xG (m := (mA t)) (s := 3) rfl, <- ek] at hl
   have e0 : X1.drop (n1 * 3) = [] := List.eq_nil_of_length_eq_zero (by omega)
   rw [<- ek, e0, List.append_nil] at q
   exact q
  clear DD ek
  go_wp2
  clear y1
  go_loopg [5] n2 (fun gk v wr => ∃ k : Nat, k <= n2 /\ gk = n2 - k /\ v = .int .i64 (k : Int) /\ oW w B #[nv, .slice x1 n1 d1, .slice x2 n2 d2, .slice x3 n3 d3, .slice x4 n4 d4] (.slice x1 n1 d1) (.slice x2 n2 d2) (.slice x3 n3 d3) (.slice x4 n4 d4) n1 n2 n3 n4 (zD n1 (mA t)) (zD k (mE t) ++ X2.drop (k * 5)) X3 X4 wr)
  case atStart => exact ⟨0, Nat.zero_le _, rfl, rfl, by rw [Nat.zero_mul, List.drop_zero]; exact D1.out⟩
  case round =>
   clear D1
   obtain ⟨k, hk, rfl, rfl, hD⟩ := hrel
   have DD := zZ hD
   clear hD
   have y2 : wr.cell? ⟨w.heap.size, 2, none⟩ = some (.slice x2 n2 d2) := DD.out.gb.cell rfl
   by_cases hlt : k < n2
   ·have hki : (k : Int) < (n2 : Int) := by omega
    have hlen := DD.out.r2.1
    have hrl : (zD k (mE t)).length = k * 5 := xG rfl k
    rcases DD.out.r2.2 with ⟨e1, e0⟩ | ⟨g, cap, cur, e1, -⟩
    ·omega
    simp only [Value.slice.injEq] at e1
    obtain ⟨e1, -, -⟩ := e1
    have rI := DD.out.r2
    rw [e1] at rI
    have z0 : ∃ u, wr.cell? ⟨g, k * 5, none⟩ = some u := by
     rw [rI.cellAt (k * 5) (by omega), List.getElem?_eq_getElem (by rw [hlen]; omega)]
     exact ⟨_, rfl⟩
    have z1 : ∃ u, wr.cell? ⟨g, k * 5 + 1, none⟩ = some u := by
     rw [rI.cellAt (k * 5 + 1) (by omega), List.getElem?_eq_getElem (by rw [hlen]; omega)]
     exact ⟨_, rfl⟩
    have z2 : ∃ u, wr.cell? ⟨g, k * 5 + 2, none⟩ = some u := by
     rw [rI.cellAt (k * 5 + 2) (by omega), List.getElem?_eq_getElem (by rw [hlen]; omega)]
     exact ⟨_, rfl⟩
    have z3 : ∃ u, wr.cell? ⟨g, k * 5 + 3, none⟩ = some u := by
     rw [rI.cellAt (k * 5 + 3) (by omega), List.getElem?_eq_getElem (by rw [hlen]; omega)]
     exact ⟨_, rfl⟩
    have z4 : ∃ u, wr.cell? ⟨g, k * 5 + 4, none⟩ = some u := by
     rw [rI.cellAt (k * 5 + 4) (by omega), List.getElem?_eq_getElem (by rw [hlen]; omega)]
     exact ⟨_, rfl⟩
    obtain ⟨u0, z0⟩ := z0
    obtain ⟨u1, z1⟩ := z1
    obtain ⟨u2, z2⟩ := z2
    obtain ⟨u3, z3⟩ := z3
    obtain ⟨u4, z4⟩ := z4
    have f0 := rI.frozenAt (k * 5)
    have f1 := rI.frozenAt (k * 5 + 1)
    have f2 := rI.frozenAt (k * 5 + 2)
    have f3 := rI.frozenAt (k * 5 + 3)
    have f4 := rI.frozenAt (k * 5 + 4)
    have NX : Hid (oW w B #[nv, .slice x1 n1 d1, .slice x2 n2 d2, .slice x3 n3 d3, .slice x4 n4 d4] (.slice x1 n1 d1) (.slice x2 n2 d2) (.slice x3 n3 d3) (.slice x4 n4 d4) n1 n2 n3 n4 (zD n1 (mA t)) (zD (k + 1) (mE t) ++ X2.drop ((k + 1) * 5)) X3 X4 ((((((wr.setCell ⟨g, k * 5, none⟩ (.int .i64 (t : Int))).setCell ⟨g, k * 5 + 1, none⟩ (.int .i64 0)).setCell ⟨g, k * 5 + 2, none⟩ (.int .i64 0)).setCell ⟨g, k * 5 + 3, none⟩ (.int .i64 0)).setCell ⟨g, k * 5 + 4, none⟩ (.slice none 0 0)))) := by
     obtain ⟨o1, g1⟩ := World.ownsRow.stored rI (k * 5) (.int .i64 (t : Int))
     obtain ⟨o2, g2⟩ := World.ownsRow.stored o1 (k * 5 + 1) (.int .i64 0)
     obtain ⟨o3, g3⟩ := World.ownsRow.stored o2 (k * 5 + 2) (.int .i64 0)
     obtain ⟨o4, g4⟩ := World.ownsRow.stored o3 (k * 5 + 3) (.int .i64 0)
     obtain ⟨o5, g5⟩ := World.ownsRow.stored o4 (k * 5 + 4) (.slice none 0 0)
     rw [set5X hrl (by rw [List.length_append, hrl] at hlen; have := Nat.mul_le_mul_right 5 (show k + 1 <= n2 from hlt); rw [Nat.succ_mul] at this; omega)] at o5
     have ex : zD k (mE t) ++ [.int .i64 (t : Int), .int .i64 0, .int .i64 0, .int .i64 0, .slice none 0 0] ++ (X2.drop (k * 5)).drop 5 = zD (k + 1) (mE t) ++ X2.drop ((k + 1) * 5) := by rw [uP, List.drop_drop, Nat.succ_mul]; rfl
     rw [ex] at o5
     rw [<- e1] at o5
     exact DD.out.put2 (by rw [e1]; rfl) o5 (Lib.grownBy_trans (Lib.grownBy_trans (Lib.grownBy_trans (Lib.grownBy_trans (g1) g2) g3) g4) g5)
    subst e1
    clear rI hlen hrl
    go_wp2
    go_roundg (n2 - (k + 1))
    case measure => omega
    case rel => exact ⟨k + 1, by omega, rfl, by go_num, NX.out⟩
   have ek : n2 = k := by omega
   have hki : ¬ (k : Int) < (n2 : Int) := by omega
   have D2 : Hid (oW w B #[nv, .slice x1 n1 d1, .slice x2 n2 d2, .slice x3 n3 d3, .slice x4 n4 d4] (.slice x1 n1 d1) (.slice x2 n2 d2) (.slice x3 n3 d3) (.slice x4 n4 d4) n1 n2 n3 n4 (zD n1 (mA t)) (zD n2 (mE t)) X3 X4 wr) := by
    have q := DD.out
    have hl := q.r2.1
    rw [List.length_append, xG (m := (mE t)) (s := 5) rfl, <- ek] at hl
    have e0 : X2.drop (n2 * 5) = [] := List.eq_nil_of_length_eq_zero (by omega)
    rw [<- ek, e0, List.append_nil] at q
    exact q
   clear DD ek
   go_wp2
   clear y2
   go_loopg [6] n3 (fun gk v wr => ∃ k : Nat, k <= n3 /\ gk = n3 - k /\ v = .int .i64 (k : Int) /\ oW w B #[nv, .slice x1 n1 d1, .slice x2 n2 d2, .slice x3 n3 d3, .slice x4 n4 d4] (.slice x1 n1 d1) (.slice x2 n2 d2) (.slice x3 n3 d3) (.slice x4 n4 d4) n1 n2 n3 n4 (zD n1 (mA t)) (zD n2 (mE t)) (zD k (mP t 1) ++ X3.drop (k * 3)) X4 wr)
   case atStart => exact ⟨0, Nat.zero_le _, rfl, rfl, by rw [Nat.zero_mul, List.drop_zero]; exact D2.out⟩
   case round =>
    clear D2
    obtain ⟨k, hk, rfl, rfl, hD⟩ := hrel
    have DD := zZ hD
    clear hD
    have y3 : wr.cell? ⟨w.heap.size, 3, none⟩ = some (.slice x3 n3 d3) := DD.out.gb.cell rfl
    by_cases hlt : k < n3
    ·have hki : (k : Int) < (n3 : Int) := by omega
     have hlen := DD.out.r3.1
     have hrl : (zD k (mP t 1)).length = k * 3 := xG rfl k
     rcases DD.out.r3.2 with ⟨e1, e0⟩ | ⟨g, cap, cur, e1, -⟩
     ·omega
     simp only [Value.slice.injEq] at e1
     obtain ⟨e1, -, -⟩ := e1
     have rI := DD.out.r3
     rw [e1] at rI
     have z0 : ∃ u, wr.cell? ⟨g, k * 3, none⟩ = some u := by
      rw [rI.cellAt (k * 3) (by omega), List.getElem?_eq_getElem (by rw [hlen]; omega)]
      exact ⟨_, rfl⟩
     have z1 : ∃ u, wr.cell? ⟨g, k * 3 + 1, none⟩ = some u := by
      rw [rI.cellAt (k * 3 + 1) (by omega), List.getElem?_eq_getElem (by rw [hlen]; omega)]
      exact ⟨_, rfl⟩
     have z2 : ∃ u, wr.cell? ⟨g, k * 3 + 2, none⟩ = some u := by
      rw [rI.cellAt (k * 3 + 2) (by omega), List.getElem?_eq_getElem (by rw [hlen]; omega)]
      exact ⟨_, rfl⟩
     obtain ⟨u0, z0⟩ := z0
     obtain ⟨u1, z1⟩ := z1
     obtain ⟨u2, z2⟩ := z2
     have f0 := rI.frozenAt (k * 3)
     have f1 := rI.frozenAt (k * 3 + 1)
     have f2 := rI.frozenAt (k * 3 + 2)
     have NX : Hid (oW w B #[nv, .slice x1 n1 d1, .slice x2 n2 d2, .slice x3 n3 d3, .slice x4 n4 d4] (.slice x1 n1 d1) (.slice x2 n2 d2) (.slice x3 n3 d3) (.slice x4 n4 d4) n1 n2 n3 n4 (zD n1 (mA t)) (zD n2 (mE t)) (zD (k + 1) (mP t 1) ++ X3.drop ((k + 1) * 3)) X4 ((((wr.setCell ⟨g, k * 3, none⟩ (.string ⟨#[]⟩)).setCell ⟨g, k * 3 + 1, none⟩ (.int .i64 (t : Int))).setCell ⟨g, k * 3 + 2, none⟩ (.int .i64 1)))) := by
      obtain ⟨o1, g1⟩ := World.ownsRow.stored rI (k * 3) (.string ⟨#[]⟩)
      obtain ⟨o2, g2⟩ := World.ownsRow.stored o1 (k * 3 + 1) (.int .i64 (t : Int))
      obtain ⟨o3, g3⟩ := World.ownsRow.stored o2 (k * 3 + 2) (.int .i64 1)
      rw [YO hrl (by rw [List.length_append, hrl] at hlen; have := Nat.mul_le_mul_right 3 (show k + 1 <= n3 from hlt); rw [Nat.succ_mul] at this; omega)] at o3
      have ex : zD k (mP t 1) ++ [.string ⟨#[]⟩, .int .i64 (t : Int), .int .i64 1] ++ (X3.drop (k * 3)).drop 3 = zD (k + 1) (mP t 1) ++ X3.drop ((k + 1) * 3) := by rw [uP, List.drop_drop, Nat.succ_mul]; rfl
      rw [ex] at o3
      rw [<- e1] at o3
      exact DD.out.put3 (by rw [e1]; rfl) o3 (Lib.grownBy_trans (Lib.grownBy_trans (g1) g2) g3)
     subst e1
     clear rI hlen hrl
     go_wp2
     go_roundg (n3 - (k + 1))
     case measure => omega
     case rel => exact ⟨k + 1, by omega, rfl, by go_num, NX.out⟩
    have ek : n3 = k := by omega
    have hki : ¬ (k : Int) < (n3 : Int) := by omega
    have D3 : Hid (oW w B #[nv, .slice x1 n1 d1, .slice x2 n2 d2, .slice x3 n3 d3, .slice x4 n4 d4] (.slice x1 n1 d1) (.slice x2 n2 d2) (.slice x3 n3 d3) (.slice x4 n4 d4) n1 n2 n3 n4 (zD n1 (mA t)) (zD n2 (mE t)) (zD n3 (mP t 1)) X4 wr) := by
     have q := DD.out
     have hl := q.r3.1
     rw [List.length_append, xG (m := (mP t 1)) (s := 3) rfl, <- ek] at hl
     have e0 : X3.drop (n3 * 3) = [] := List.eq_nil_of_length_eq_zero (by omega)
     rw [<- ek, e0, List.append_nil] at q
     exact q
    clear DD ek
    go_wp2
    clear y3
    go_loopg [7] n4 (fun gk v wr => ∃ k : Nat, k <= n4 /\ gk = n4 - k /\ v = .int .i64 (k : Int) /\ oW w B #[nv, .slice x1 n1 d1, .slice x2 n2 d2, .slice x3 n3 d3, .slice x4 n4 d4] (.slice x1 n1 d1) (.slice x2 n2 d2) (.slice x3 n3 d3) (.slice x4 n4 d4) n1 n2 n3 n4 (zD n1 (mA t)) (zD n2 (mE t)) (zD n3 (mP t 1)) (zD k (mP t 2) ++ X4.drop (k * 3)) wr)
    case atStart => exact ⟨0, Nat.zero_le _, rfl, rfl, by rw [Nat.zero_mul, List.drop_zero]; exact D3.out⟩
    case round =>
     clear D3
     obtain ⟨k, hk, rfl, rfl, hD⟩ := hrel
     have DD := zZ hD
     clear hD
     have y4 : wr.cell? ⟨w.heap.size, 4, none⟩ = some (.slice x4 n4 d4) := DD.out.gb.cell rfl
     by_cases hlt : k < n4
     ·have hki : (k : Int) < (n4 : Int) := by omega
      have hlen := DD.out.r4.1
      have hrl : (zD k (mP t 2)).length = k * 3 := xG rfl k
      rcases DD.out.r4.2 with ⟨e1, e0⟩ | ⟨g, cap, cur, e1, -⟩
      ·omega
      simp only [Value.slice.injEq] at e1
      obtain ⟨e1, -, -⟩ := e1
      have rI := DD.out.r4
      rw [e1] at rI
      have z0 : ∃ u, wr.cell? ⟨g, k * 3, none⟩ = some u := by
       rw [rI.cellAt (k * 3) (by omega), List.getElem?_eq_getElem (by rw [hlen]; omega)]
       exact ⟨_, rfl⟩
      have z1 : ∃ u, wr.cell? ⟨g, k * 3 + 1, none⟩ = some u := by
       rw [rI.cellAt (k * 3 + 1) (by omega), List.getElem?_eq_getElem (by rw [hlen]; omega)]
       exact ⟨_, rfl⟩
      have z2 : ∃ u, wr.cell? ⟨g, k * 3 + 2, none⟩ = some u := by
       rw [rI.cellAt (k * 3 + 2) (by omega), List.getElem?_eq_getElem (by rw [hlen]; omega)]
       exact ⟨_, rfl⟩
      obtain ⟨u0, z0⟩ := z0
      obtain ⟨u1, z1⟩ := z1
      obtain ⟨u2, z2⟩ := z2
      have f0 := rI.frozenAt (k * 3)
      have f1 := rI.frozenAt (k * 3 + 1)
      have f2 := rI.frozenAt (k * 3 + 2)
      have NX : Hid (oW w B #[nv, .slice x1 n1 d1, .slice x2 n2 d2, .slice x3 n3 d3, .slice x4 n4 d4] (.slice x1 n1 d1) (.slice x2 n2 d2) (.slice x3 n3 d3) (.slice x4 n4 d4) n1 n2 n3 n4 (zD n1 (mA t)) (zD n2 (mE t)) (zD n3 (mP t 1)) (zD (k + 1) (mP t 2) ++ X4.drop ((k + 1) * 3)) ((((wr.setCell ⟨g, k * 3, none⟩ (.string ⟨#[]⟩)).setCell ⟨g, k * 3 + 1, none⟩ (.int .i64 (t : Int))).setCell ⟨g, k * 3 + 2, none⟩ (.int .i64 2)))) := by
       obtain ⟨o1, g1⟩ := World.ownsRow.stored rI (k * 3) (.string ⟨#[]⟩)
       obtain ⟨o2, g2⟩ := World.ownsRow.stored o1 (k * 3 + 1) (.int .i64 (t : Int))
       obtain ⟨o3, g3⟩ := World.ownsRow.stored o2 (k * 3 + 2) (.int .i64 2)
       rw [YO hrl (by rw [List.length_append, hrl] at hlen; have := Nat.mul_le_mul_right 3 (show k + 1 <= n4 from hlt); rw [Nat.succ_mul] at this; omega)] at o3
       have ex : zD k (mP t 2) ++ [.string ⟨#[]⟩, .int .i64 (t : Int), .int .i64 2] ++ (X4.drop (k * 3)).drop 3 = zD (k + 1) (mP t 2) ++ X4.drop ((k + 1) * 3) := by rw [uP, List.drop_drop, Nat.succ_mul]; rfl
       rw [ex] at o3
       rw [<- e1] at o3
       exact DD.out.put4 (by rw [e1]; rfl) o3 (Lib.grownBy_trans (Lib.grownBy_trans (g1) g2) g3)
      subst e1
      clear rI hlen hrl
      go_wp2
      go_roundg (n4 - (k + 1))
      case measure => omega
      case rel => exact ⟨k + 1, by omega, rfl, by go_num, NX.out⟩
     have ek : n4 = k := by omega
     have hki : ¬ (k : Int) < (n4 : Int) := by omega
     have D4 : Hid (oW w B #[nv, .slice x1 n1 d1, .slice x2 n2 d2, .slice x3 n3 d3, .slice x4 n4 d4] (.slice x1 n1 d1) (.slice x2 n2 d2) (.slice x3 n3 d3) (.slice x4 n4 d4) n1 n2 n3 n4 (zD n1 (mA t)) (zD n2 (mE t)) (zD n3 (mP t 1)) (zD n4 (mP t 2)) wr) := by
      have q := DD.out
      have hl := q.r4.1
      rw [List.length_append, xG (m := (mP t 2)) (s := 3) rfl, <- ek] at hl
      have e0 : X4.drop (n4 * 3) = [] := List.eq_nil_of_length_eq_zero (by omega)
      rw [<- ek, e0, List.append_nil] at q
      exact q
     clear DD ek
     go_wp2
     rw [<- HRE.out]
     exact ⟨rfl, .tuple #[], by simp [results, Try.results30, go_sem], rfl, D4.out⟩
theorem rC {w : World} {B T c n g j : Nat} {v : Value} {xs : List Value} (h : w.ownsRow B T c v n xs) (hg : v.ownBlock = some g) (hj : j < xs.length) : w.cell? ⟨g, j, none⟩ = xs[j]? := by
 have q := World.ownsRow.cells h hg j (xs[j]) (List.getElem?_eq_getElem hj)
 rw [xC] at q
 rw [q, List.getElem?_eq_getElem hj]
structure GrF (w : World) (B : Nat) (o1 o2 o3 o4 : Value) (O1 O2 O3 O4 : List Value) (v1 v2 v3 v4 : Value) (n1 n2 n3 n4 : Nat) (X1 X2 X3 X4 : List Value) (wr : World) : Prop where
 r1 : wr.ownsRow B 61 3 v1 n1 X1
 r2 : wr.ownsRow B 64 5 v2 n2 X2
 r3 : wr.ownsRow B 83 3 v3 n3 X3
 r4 : wr.ownsRow B 83 3 v4 n4 X4
 n34 : NB v3 v4
 p1 : O1 <+: X1
 p2 : O2 <+: X2
 p3 : O3 <+: X3
 p4 : O4 <+: X4
 q1 : ∀ g, o1.ownBlock = some g -> ∀ j, j < O1.length -> wr.cell? ⟨g, j, none⟩ = O1[j]?
 q2 : ∀ g, o2.ownBlock = some g -> ∀ j, j < O2.length -> wr.cell? ⟨g, j, none⟩ = O2[j]?
 q3 : ∀ g, o3.ownBlock = some g -> ∀ j, j < O3.length -> wr.cell? ⟨g, j, none⟩ = O3[j]?
 q4 : ∀ g, o4.ownBlock = some g -> ∀ j, j < O4.length -> wr.cell? ⟨g, j, none⟩ = O4[j]?
 l1 : ∀ k, v1.ownBlock = some k -> o1.ownBlock = some k \/ w.heap.size + 2 <= k
 l2 : ∀ k, v2.ownBlock = some k -> o2.ownBlock = some k \/ w.heap.size + 2 <= k
 l3 : ∀ k, v3.ownBlock = some k -> o3.ownBlock = some k \/ w.heap.size + 2 <= k
 l4 : ∀ k, v4.ownBlock = some k -> o4.ownBlock = some k \/ w.heap.size + 2 <= k
 s1 : ∀ k, o1.ownBlock = some k -> k < w.heap.size
 s2 : ∀ k, o2.ownBlock = some k -> k < w.heap.size
 s3 : ∀ k, o3.ownBlock = some k -> k < w.heap.size
 s4 : ∀ k, o4.ownBlock = some k -> k < w.heap.size
 a12 : NB o1 o2
 a13 : NB o1 o3
 a14 : NB o1 o4
 a23 : NB o2 o3
 a24 : NB o2 o4
 a34 : NB o3 o4
 fr : ∀ k, k < w.heap.size -> o1.ownBlock ≠ some k -> o2.ownBlock ≠ some k -> o3.ownBlock ≠ some k -> o4.ownBlock ≠ some k -> wr.heap[k]? = w.heap[k]?
 bel : Below B w wr
 hB : B <= w.heap.size
structure dD (w : World) (B : Nat) (nv : Value) (o1 o2 o3 o4 : Value) (O1 O2 O3 O4 : List Value) (v1 v2 v3 v4 : Value) (n1 n2 n3 n4 : Nat) (X1 X2 X3 X4 : List Value) (wr : World) : Prop where
 gb : zN 31 w.heap.size wr #[nv, v1, v2, v3, v4]
 rb : zN 31 (w.heap.size + 1) wr #[.string ⟨#[]⟩, .slice none 0 0, .slice none 0 0, .slice none 0 0, .slice none 0 0]
 f : GrF w B o1 o2 o3 o4 O1 O2 O3 O4 v1 v2 v3 v4 n1 n2 n3 n4 X1 X2 X3 X4 wr
 big : w.heap.size + 2 <= wr.heap.size
theorem dD.put1 {w B nv o1 o2 o3 o4 O1 O2 O3 O4 v1 v2 v3 v4 n1 n2 n3 n4 X1 X2 X3 X4} {V : World} (h : dD w B nv o1 o2 o3 o4 O1 O2 O3 O4 v1 v2 v3 v4 n1 n2 n3 n4 X1 X2 X3 X4 V) {w2 w4 : World} {P : List Value} {v' : Value} (hb : Below V.heap.size V w2) (ho : w4.ownsRow B 61 3 v' (n1 + 1) (X1 ++ P))
 (ht : (∃ g cap, v1 = .slice (some ⟨g, 0, none⟩) n1 cap /\ v' = .slice (some ⟨g, 0, none⟩) (n1 + 1) cap /\ w2.grownBy w4 (some g)) \/ (∃ cap, v' = .slice (some ⟨w2.heap.size, 0, none⟩) (n1 + 1) cap /\ w2.grownBy w4 none)) :
 dD w B nv o1 o2 o3 o4 O1 O2 O3 O4 v' v2 v3 v4 (n1 + 1) n2 n3 n4 (X1 ++ P) X2 X3 X4 (w4.setCell ⟨w.heap.size, 1, none⟩ v') /\ zN 31 w.heap.size w4 #[nv, v1, v2, v3, v4] := by
 have hbig := h.big
 have hsz := hb.size
 have tk := xU ht
 have kp : ∀ d, d < V.heap.size -> v1.ownBlock ≠ some d -> w4.heap[d]? = V.heap[d]? := fun d hd hn => (tk.2 d (by omega) hn).trans (hb.block d hd)
 have nbox1 : ∀ k, v1.ownBlock = some k -> k ≠ w.heap.size := fun k e q => by rcases h.f.l1 k e with z | z; exact absurd (h.f.s1 k z) (by omega); omega
 have nbox2 : ∀ k, v2.ownBlock = some k -> k ≠ w.heap.size := fun k e q => by rcases h.f.l2 k e with z | z; exact absurd (h.f.s2 k z) (by omega); omega
 have nbox3 : ∀ k, v3.ownBlock = some k -> k ≠ w.heap.size := fun k e q => by rcases h.f.l3 k e with z | z; exact absurd (h.f.s3 k z) (by omega); omega
 have nbox4 : ∀ k, v4.ownBlock = some k -> k ≠ w.heap.size := fun k e q => by rcases h.f.l4 k e with z | z; exact absurd (h.f.s4 k z) (by omega); omega
 have nb2 : v1.ownBlock ≠ some (w.heap.size + 1) := fun e => by rcases h.f.l1 _ e with z | z; exact absurd (h.f.s1 _ z) (by omega); omega
 have b3 := h.gb.keep (kp w.heap.size (by omega) (fun e => nbox1 _ e rfl))
 have set : ∀ k, k ≠ w.heap.size -> (w4.setCell ⟨w.heap.size, 1, none⟩ v').heap[k]? = w4.heap[k]? := fun k hk => Below.heap_setCell w4 ⟨w.heap.size, 1, none⟩ v' k hk
 have nboxN : ∀ k, v'.ownBlock = some k -> k ≠ w.heap.size := fun k e q => by
  rcases ht with ⟨g, cap, e1, e2, -⟩ | ⟨cap, e2, -⟩
  ·rw [e2] at e; cases e; exact nbox1 g (by rw [e1]; rfl) q
  rw [e2] at e; have e' : w2.heap.size = k := Option.some.inj e; omega
 have rI : (w4.setCell ⟨w.heap.size, 1, none⟩ v').ownsRow B 61 3 v' (n1 + 1) (X1 ++ P) := zV ho fun k e => set k (nboxN k e)
 have cellSame : ∀ g, g < w.heap.size -> v1.ownBlock ≠ some g -> ∀ {j : Nat}, (w4.setCell ⟨w.heap.size, 1, none⟩ v').cell? ⟨g, j, none⟩ = V.cell? ⟨g, j, none⟩ := fun g hg hn j => by
  have e : (w4.setCell ⟨w.heap.size, 1, none⟩ v').heap[g]? = V.heap[g]? := (set g (by omega)).trans (kp g (by omega) hn)
  simp only [World.cell?, e]
 have qI : ∀ g, o1.ownBlock = some g -> ∀ j, j < O1.length -> (w4.setCell ⟨w.heap.size, 1, none⟩ v').cell? ⟨g, j, none⟩ = O1[j]? := fun g hg j hj => by
  by_cases hvg : v1.ownBlock = some g
  ·have hgs := h.f.s1 g hg
   rcases ht with ⟨g', cap, e1, e2, -⟩ | ⟨cap, e2, hgn⟩
   ·rw [e1] at hvg
    cases hvg
    rw [e2] at rI
    have hl := rI.1
    have hpl := h.f.p1.length_le
    have hXl := h.f.r1.1
    have e9 := rI.cellAt j (by rw [Nat.succ_mul]; omega)
    rw [<- e2] at e9
    rw [e9, List.getElem?_append_left (by omega)]
    obtain ⟨z, hz⟩ := h.f.p1
    rw [<- hz, List.getElem?_append_left hj]
   have e : (w4.setCell ⟨w.heap.size, 1, none⟩ v').heap[g]? = V.heap[g]? := (set g (by omega)).trans ((hgn.block g (by omega) (fun e => by cases e)).trans (hb.block g (by omega)))
   have e9 : (w4.setCell ⟨w.heap.size, 1, none⟩ v').cell? ⟨g, j, none⟩ = V.cell? ⟨g, j, none⟩ := by simp only [World.cell?, e]
   rw [e9]
   exact h.f.q1 g hg j hj
  rw [cellSame g (h.f.s1 g hg) hvg]
  exact h.f.q1 g hg j hj
 have lI : ∀ k, v'.ownBlock = some k -> o1.ownBlock = some k \/ w.heap.size + 2 <= k := fun k e => by
  rcases ht with ⟨g, cap, e1, e2, -⟩ | ⟨cap, e2, -⟩
  ·rw [e2] at e; cases e; exact h.f.l1 g (by rw [e1]; rfl)
  rw [e2] at e; have e' : w2.heap.size = k := Option.some.inj e; exact .inr (by omega)
 have hBw := h.f.hB
 obtain ⟨row, hg, hrow⟩ := xZ ht
 refine ⟨⟨b3.set 1 v', h.rb.keep ((set _ (by omega)).trans (kp _ (by omega) nb2)), ⟨rI, (zV h.f.r2 fun k e => (set k (nbox2 k e)).trans (kp k (zR h.f.r2 k e) (fun q => (zO h.f.r1 h.f.r2 (by decide)) k q e))), (zV h.f.r3 fun k e => (set k (nbox3 k e)).trans (kp k (zR h.f.r3 k e) (fun q => (zO h.f.r1 h.f.r3 (by decide)) k q e))), (zV h.f.r4 fun k e => (set k (nbox4 k e)).trans (kp k (zR h.f.r4 k e) (fun q => (zO h.f.r1 h.f.r4 (by decide)) k q e))), h.f.n34, (h.f.p1.trans (List.prefix_append _ _)), h.f.p2, h.f.p3, h.f.p4, qI, (fun g hg j hj => by rw [cellSame g (h.f.s2 g hg) (fun e => by rcases h.f.l1 g e with q | q; exact h.f.a12 g q hg; exact absurd (h.f.s2 g hg) (by omega))]; exact h.f.q2 g hg j hj), (fun g hg j hj => by rw [cellSame g (h.f.s3 g hg) (fun e => by rcases h.f.l1 g e with q | q; exact h.f.a13 g q hg; exact absurd (h.f.s3 g hg) (by omega))]; exact h.f.q3 g hg j hj), (fun g hg j hj => by rw [cellSame g (h.f.s4 g hg) (fun e => by rcases h.f.l1 g e with q | q; exact h.f.a14 g q hg; exact absurd (h.f.s4 g hg) (by omega))]; exact h.f.q4 g hg j hj), lI, h.f.l2, h.f.l3, h.f.l4, h.f.s1, h.f.s2, h.f.s3, h.f.s4, h.f.a12, h.f.a13, h.f.a14, h.f.a23, h.f.a24, h.f.a34, fun k hk z1 z2 z3 z4 => ((set k (by omega)).trans (kp k (by omega) (fun e => by rcases h.f.l1 k e with q | q; exact z1 q; omega))).trans (h.f.fr k hk z1 z2 z3 z4), ?_, hBw⟩, ?_⟩, b3⟩
 ·have h1 : Below B w w2 := h.f.bel.trans (hb.mono (Nat.le_trans hBw h.f.bel.size))
  exact (zH h1 hg (fun k hk => zT h.f.r1 k (hrow k hk)) (Nat.le_trans hBw h1.size)).setCell (p := ⟨w.heap.size, 1, none⟩) hBw _
 have := tk.1
 rw [World.size_setCell]
 omega
theorem dD.put2 {w B nv o1 o2 o3 o4 O1 O2 O3 O4 v1 v2 v3 v4 n1 n2 n3 n4 X1 X2 X3 X4} {V : World} (h : dD w B nv o1 o2 o3 o4 O1 O2 O3 O4 v1 v2 v3 v4 n1 n2 n3 n4 X1 X2 X3 X4 V) {w2 w4 : World} {P : List Value} {v' : Value} (hb : Below V.heap.size V w2) (ho : w4.ownsRow B 64 5 v' (n2 + 1) (X2 ++ P))
 (ht : (∃ g cap, v2 = .slice (some ⟨g, 0, none⟩) n2 cap /\ v' = .slice (some ⟨g, 0, none⟩) (n2 + 1) cap /\ w2.grownBy w4 (some g)) \/ (∃ cap, v' = .slice (some ⟨w2.heap.size, 0, none⟩) (n2 + 1) cap /\ w2.grownBy w4 none)) :
 dD w B nv o1 o2 o3 o4 O1 O2 O3 O4 v1 v' v3 v4 n1 (n2 + 1) n3 n4 X1 (X2 ++ P) X3 X4 (w4.setCell ⟨w.heap.size, 2, none⟩ v') /\ zN 31 w.heap.size w4 #[nv, v1, v2, v3, v4] := by
 have hbig := h.big
 have hsz := hb.size
 have tk := xU ht
 have kp : ∀ d, d < V.heap.size -> v2.ownBlock ≠ some d -> w4.heap[d]? = V.heap[d]? := fun d hd hn => (tk.2 d (by omega) hn).trans (hb.block d hd)
 have nbox1 : ∀ k, v1.ownBlock = some k -> k ≠ w.heap.size := fun k e q => by rcases h.f.l1 k e with z | z; exact absurd (h.f.s1 k z) (by omega); omega
 have nbox2 : ∀ k, v2.ownBlock = some k -> k ≠ w.heap.size := fun k e q => by rcases h.f.l2 k e with z | z; exact absurd (h.f.s2 k z) (by omega); omega
 have nbox3 : ∀ k, v3.ownBlock = some k -> k ≠ w.heap.size := fun k e q => by rcases h.f.l3 k e with z | z; exact absurd (h.f.s3 k z) (by omega); omega
 have nbox4 : ∀ k, v4.ownBlock = some k -> k ≠ w.heap.size := fun k e q => by rcases h.f.l4 k e with z | z; exact absurd (h.f.s4 k z) (by omega); omega
 have nb2 : v2.ownBlock ≠ some (w.heap.size + 1) := fun e => by rcases h.f.l2 _ e with z | z; exact absurd (h.f.s2 _ z) (by omega); omega
 have b3 := h.gb.keep (kp w.heap.size (by omega) (fun e => nbox2 _ e rfl))
 have set : ∀ k, k ≠ w.heap.size -> (w4.setCell ⟨w.heap.size, 2, none⟩ v').heap[k]? = w4.heap[k]? := fun k hk => Below.heap_setCell w4 ⟨w.heap.size, 2, none⟩ v' k hk
 have nboxN : ∀ k, v'.ownBlock = some k -> k ≠ w.heap.size := fun k e q => by
  rcases ht with ⟨g, cap, e1, e2, -⟩ | ⟨cap, e2, -⟩
  ·rw [e2] at e; cases e; exact nbox2 g (by rw [e1]; rfl) q
  rw [e2] at e; have e' : w2.heap.size = k := Option.some.inj e; omega
 have rI : (w4.setCell ⟨w.heap.size, 2, none⟩ v').ownsRow B 64 5 v' (n2 + 1) (X2 ++ P) := zV ho fun k e => set k (nboxN k e)
 have cellSame : ∀ g, g < w.heap.size -> v2.ownBlock ≠ some g -> ∀ {j : Nat}, (w4.setCell ⟨w.heap.size, 2, none⟩ v').cell? ⟨g, j, none⟩ = V.cell? ⟨g, j, none⟩ := fun g hg hn j => by
  have e : (w4.setCell ⟨w.heap.size, 2, none⟩ v').heap[g]? = V.heap[g]? := (set g (by omega)).trans (kp g (by omega) hn)
  simp only [World.cell?, e]
 have qI : ∀ g, o2.ownBlock = some g -> ∀ j, j < O2.length -> (w4.setCell ⟨w.heap.size, 2, none⟩ v').cell? ⟨g, j, none⟩ = O2[j]? := fun g hg j hj => by
  by_cases hvg : v2.ownBlock = some g
  ·have hgs := h.f.s2 g hg
   rcases ht with ⟨g', cap, e1, e2, -⟩ | ⟨cap, e2, hgn⟩
   ·rw [e1] at hvg
    cases hvg
    rw [e2] at rI
    have hl := rI.1
    have hpl := h.f.p2.length_le
    have hXl := h.f.r2.1
    have e9 := rI.cellAt j (by rw [Nat.succ_mul]; omega)
    rw [<- e2] at e9
    rw [e9, List.getElem?_append_left (by omega)]
    obtain ⟨z, hz⟩ := h.f.p2
    rw [<- hz, List.getElem?_append_left hj]
   have e : (w4.setCell ⟨w.heap.size, 2, none⟩ v').heap[g]? = V.heap[g]? := (set g (by omega)).trans ((hgn.block g (by omega) (fun e => by cases e)).trans (hb.block g (by omega)))
   have e9 : (w4.setCell ⟨w.heap.size, 2, none⟩ v').cell? ⟨g, j, none⟩ = V.cell? ⟨g, j, none⟩ := by simp only [World.cell?, e]
   rw [e9]
   exact h.f.q2 g hg j hj
  rw [cellSame g (h.f.s2 g hg) hvg]
  exact h.f.q2 g hg j hj
 have lI : ∀ k, v'.ownBlock = some k -> o2.ownBlock = some k \/ w.heap.size + 2 <= k := fun k e => by
  rcases ht with ⟨g, cap, e1, e2, -⟩ | ⟨cap, e2, -⟩
  ·rw [e2] at e; cases e; exact h.f.l2 g (by rw [e1]; rfl)
  rw [e2] at e; have e' : w2.heap.size = k := Option.some.inj e; exact .inr (by omega)
 have hBw := h.f.hB
 obtain ⟨row, hg, hrow⟩ := xZ ht
 refine ⟨⟨b3.set 2 v', h.rb.keep ((set _ (by omega)).trans (kp _ (by omega) nb2)), ⟨(zV h.f.r1 fun k e => (set k (nbox1 k e)).trans (kp k (zR h.f.r1 k e) (fun q => (zO h.f.r2 h.f.r1 (by decide)) k q e))), rI, (zV h.f.r3 fun k e => (set k (nbox3 k e)).trans (kp k (zR h.f.r3 k e) (fun q => (zO h.f.r2 h.f.r3 (by decide)) k q e))), (zV h.f.r4 fun k e => (set k (nbox4 k e)).trans (kp k (zR h.f.r4 k e) (fun q => (zO h.f.r2 h.f.r4 (by decide)) k q e))), h.f.n34, h.f.p1, (h.f.p2.trans (List.prefix_append _ _)), h.f.p3, h.f.p4, (fun g hg j hj => by rw [cellSame g (h.f.s1 g hg) (fun e => by rcases h.f.l2 g e with q | q; exact h.f.a12.symm g q hg; exact absurd (h.f.s1 g hg) (by omega))]; exact h.f.q1 g hg j hj), qI, (fun g hg j hj => by rw [cellSame g (h.f.s3 g hg) (fun e => by rcases h.f.l2 g e with q | q; exact h.f.a23 g q hg; exact absurd (h.f.s3 g hg) (by omega))]; exact h.f.q3 g hg j hj), (fun g hg j hj => by rw [cellSame g (h.f.s4 g hg) (fun e => by rcases h.f.l2 g e with q | q; exact h.f.a24 g q hg; exact absurd (h.f.s4 g hg) (by omega))]; exact h.f.q4 g hg j hj), h.f.l1, lI, h.f.l3, h.f.l4, h.f.s1, h.f.s2, h.f.s3, h.f.s4, h.f.a12, h.f.a13, h.f.a14, h.f.a23, h.f.a24, h.f.a34, fun k hk z1 z2 z3 z4 => ((set k (by omega)).trans (kp k (by omega) (fun e => by rcases h.f.l2 k e with q | q; exact z2 q; omega))).trans (h.f.fr k hk z1 z2 z3 z4), ?_, hBw⟩, ?_⟩, b3⟩
 ·have h1 : Below B w w2 := h.f.bel.trans (hb.mono (Nat.le_trans hBw h.f.bel.size))
  exact (zH h1 hg (fun k hk => zT h.f.r2 k (hrow k hk)) (Nat.le_trans hBw h1.size)).setCell (p := ⟨w.heap.size, 2, none⟩) hBw _
 have := tk.1
 rw [World.size_setCell]
 omega
theorem dD.put3 {w B nv o1 o2 o3 o4 O1 O2 O3 O4 v1 v2 v3 v4 n1 n2 n3 n4 X1 X2 X3 X4} {V : World} (h : dD w B nv o1 o2 o3 o4 O1 O2 O3 O4 v1 v2 v3 v4 n1 n2 n3 n4 X1 X2 X3 X4 V) {w2 w4 : World} {P : List Value} {v' : Value} (hb : Below V.heap.size V w2) (ho : w4.ownsRow B 83 3 v' (n3 + 1) (X3 ++ P))
 (ht : (∃ g cap, v3 = .slice (some ⟨g, 0, none⟩) n3 cap /\ v' = .slice (some ⟨g, 0, none⟩) (n3 + 1) cap /\ w2.grownBy w4 (some g)) \/ (∃ cap, v' = .slice (some ⟨w2.heap.size, 0, none⟩) (n3 + 1) cap /\ w2.grownBy w4 none)) :
 dD w B nv o1 o2 o3 o4 O1 O2 O3 O4 v1 v2 v' v4 n1 n2 (n3 + 1) n4 X1 X2 (X3 ++ P) X4 (w4.setCell ⟨w.heap.size, 3, none⟩ v') /\ zN 31 w.heap.size w4 #[nv, v1, v2, v3, v4] := by
 have hbig := h.big
 have hsz := hb.size
 have tk := xU ht
 have kp : ∀ d, d < V.heap.size -> v3.ownBlock ≠ some d -> w4.heap[d]? = V.heap[d]? := fun d hd hn => (tk.2 d (by omega) hn).trans (hb.block d hd)
 have nbox1 : ∀ k, v1.ownBlock = some k -> k ≠ w.heap.size := fun k e q => by rcases h.f.l1 k e with z | z; exact absurd (h.f.s1 k z) (by omega); omega
 have nbox2 : ∀ k, v2.ownBlock = some k -> k ≠ w.heap.size := fun k e q => by rcases h.f.l2 k e with z | z; exact absurd (h.f.s2 k z) (by omega); omega
 have nbox3 : ∀ k, v3.ownBlock = some k -> k ≠ w.heap.size := fun k e q => by rcases h.f.l3 k e with z | z; exact absurd (h.f.s3 k z) (by omega); omega
 have nbox4 : ∀ k, v4.ownBlock = some k -> k ≠ w.heap.size := fun k e q => by rcases h.f.l4 k e with z | z; exact absurd (h.f.s4 k z) (by omega); omega
 have nb2 : v3.ownBlock ≠ some (w.heap.size + 1) := fun e => by rcases h.f.l3 _ e with z | z; exact absurd (h.f.s3 _ z) (by omega); omega
 have b3 := h.gb.keep (kp w.heap.size (by omega) (fun e => nbox3 _ e rfl))
 have set : ∀ k, k ≠ w.heap.size -> (w4.setCell ⟨w.heap.size, 3, none⟩ v').heap[k]? = w4.heap[k]? := fun k hk => Below.heap_setCell w4 ⟨w.heap.size, 3, none⟩ v' k hk
 have nboxN : ∀ k, v'.ownBlock = some k -> k ≠ w.heap.size := fun k e q => by
  rcases ht with ⟨g, cap, e1, e2, -⟩ | ⟨cap, e2, -⟩
  ·rw [e2] at e; cases e; exact nbox3 g (by rw [e1]; rfl) q
  rw [e2] at e; have e' : w2.heap.size = k := Option.some.inj e; omega
 have rI : (w4.setCell ⟨w.heap.size, 3, none⟩ v').ownsRow B 83 3 v' (n3 + 1) (X3 ++ P) := zV ho fun k e => set k (nboxN k e)
 have cellSame : ∀ g, g < w.heap.size -> v3.ownBlock ≠ some g -> ∀ {j : Nat}, (w4.setCell ⟨w.heap.size, 3, none⟩ v').cell? ⟨g, j, none⟩ = V.cell? ⟨g, j, none⟩ := fun g hg hn j => by
  have e : (w4.setCell ⟨w.heap.size, 3, none⟩ v').heap[g]? = V.heap[g]? := (set g (by omega)).trans (kp g (by omega) hn)
  simp only [World.cell?, e]
 have qI : ∀ g, o3.ownBlock = some g -> ∀ j, j < O3.length -> (w4.setCell ⟨w.heap.size, 3, none⟩ v').cell? ⟨g, j, none⟩ = O3[j]? := fun g hg j hj => by
  by_cases hvg : v3.ownBlock = some g
  ·have hgs := h.f.s3 g hg
   rcases ht with ⟨g', cap, e1, e2, -⟩ | ⟨cap, e2, hgn⟩
   ·rw [e1] at hvg
    cases hvg
    rw [e2] at rI
    have hl := rI.1
    have hpl := h.f.p3.length_le
    have hXl := h.f.r3.1
    have e9 := rI.cellAt j (by rw [Nat.succ_mul]; omega)
    rw [<- e2] at e9
    rw [e9, List.getElem?_append_left (by omega)]
    obtain ⟨z, hz⟩ := h.f.p3
    rw [<- hz, List.getElem?_append_left hj]
   have e : (w4.setCell ⟨w.heap.size, 3, none⟩ v').heap[g]? = V.heap[g]? := (set g (by omega)).trans ((hgn.block g (by omega) (fun e => by cases e)).trans (hb.block g (by omega)))
   have e9 : (w4.setCell ⟨w.heap.size, 3, none⟩ v').cell? ⟨g, j, none⟩ = V.cell? ⟨g, j, none⟩ := by simp only [World.cell?, e]
   rw [e9]
   exact h.f.q3 g hg j hj
  rw [cellSame g (h.f.s3 g hg) hvg]
  exact h.f.q3 g hg j hj
 have lI : ∀ k, v'.ownBlock = some k -> o3.ownBlock = some k \/ w.heap.size + 2 <= k := fun k e => by
  rcases ht with ⟨g, cap, e1, e2, -⟩ | ⟨cap, e2, -⟩
  ·rw [e2] at e; cases e; exact h.f.l3 g (by rw [e1]; rfl)
  rw [e2] at e; have e' : w2.heap.size = k := Option.some.inj e; exact .inr (by omega)
 have hBw := h.f.hB
 obtain ⟨row, hg, hrow⟩ := xZ ht
 refine ⟨⟨b3.set 3 v', h.rb.keep ((set _ (by omega)).trans (kp _ (by omega) nb2)), ⟨(zV h.f.r1 fun k e => (set k (nbox1 k e)).trans (kp k (zR h.f.r1 k e) (fun q => (zO h.f.r3 h.f.r1 (by decide)) k q e))), (zV h.f.r2 fun k e => (set k (nbox2 k e)).trans (kp k (zR h.f.r2 k e) (fun q => (zO h.f.r3 h.f.r2 (by decide)) k q e))), rI, (zV h.f.r4 fun k e => (set k (nbox4 k e)).trans (kp k (zR h.f.r4 k e) (fun q => h.f.n34 k q e))), (NB.told h.f.n34 (fun k e => Nat.lt_of_lt_of_le (zR h.f.r4 k e) hsz) ht), h.f.p1, h.f.p2, (h.f.p3.trans (List.prefix_append _ _)), h.f.p4, (fun g hg j hj => by rw [cellSame g (h.f.s1 g hg) (fun e => by rcases h.f.l3 g e with q | q; exact h.f.a13.symm g q hg; exact absurd (h.f.s1 g hg) (by omega))]; exact h.f.q1 g hg j hj), (fun g hg j hj => by rw [cellSame g (h.f.s2 g hg) (fun e => by rcases h.f.l3 g e with q | q; exact h.f.a23.symm g q hg; exact absurd (h.f.s2 g hg) (by omega))]; exact h.f.q2 g hg j hj), qI, (fun g hg j hj => by rw [cellSame g (h.f.s4 g hg) (fun e => by rcases h.f.l3 g e with q | q; exact h.f.a34 g q hg; exact absurd (h.f.s4 g hg) (by omega))]; exact h.f.q4 g hg j hj), h.f.l1, h.f.l2, lI, h.f.l4, h.f.s1, h.f.s2, h.f.s3, h.f.s4, h.f.a12, h.f.a13, h.f.a14, h.f.a23, h.f.a24, h.f.a34, fun k hk z1 z2 z3 z4 => ((set k (by omega)).trans (kp k (by omega) (fun e => by rcases h.f.l3 k e with q | q; exact z3 q; omega))).trans (h.f.fr k hk z1 z2 z3 z4), ?_, hBw⟩, ?_⟩, b3⟩
 ·have h1 : Below B w w2 := h.f.bel.trans (hb.mono (Nat.le_trans hBw h.f.bel.size))
  exact (zH h1 hg (fun k hk => zT h.f.r3 k (hrow k hk)) (Nat.le_trans hBw h1.size)).setCell (p := ⟨w.heap.size, 3, none⟩) hBw _
 have := tk.1
 rw [World.size_setCell]
 omega
theorem dD.put4 {w B nv o1 o2 o3 o4 O1 O2 O3 O4 v1 v2 v3 v4 n1 n2 n3 n4 X1 X2 X3 X4} {V : World} (h : dD w B nv o1 o2 o3 o4 O1 O2 O3 O4 v1 v2 v3 v4 n1 n2 n3 n4 X1 X2 X3 X4 V) {w2 w4 : World} {P : List Value} {v' : Value} (hb : Below V.heap.size V w2) (ho : w4.ownsRow B 83 3 v' (n4 + 1) (X4 ++ P))
 (ht : (∃ g cap, v4 = .slice (some ⟨g, 0, none⟩) n4 cap /\ v' = .slice (some ⟨g, 0, none⟩) (n4 + 1) cap /\ w2.grownBy w4 (some g)) \/ (∃ cap, v' = .slice (some ⟨w2.heap.size, 0, none⟩) (n4 + 1) cap /\ w2.grownBy w4 none)) :
 dD w B nv o1 o2 o3 o4 O1 O2 O3 O4 v1 v2 v3 v' n1 n2 n3 (n4 + 1) X1 X2 X3 (X4 ++ P) (w4.setCell ⟨w.heap.size, 4, none⟩ v') /\ zN 31 w.heap.size w4 #[nv, v1, v2, v3, v4] := by
 have hbig := h.big
 have hsz := hb.size
 have tk := xU ht
 have kp : ∀ d, d < V.heap.size -> v4.ownBlock ≠ some d -> w4.heap[d]? = V.heap[d]? := fun d hd hn => (tk.2 d (by omega) hn).trans (hb.block d hd)
 have nbox1 : ∀ k, v1.ownBlock = some k -> k ≠ w.heap.size := fun k e q => by rcases h.f.l1 k e with z | z; exact absurd (h.f.s1 k z) (by omega); omega
 have nbox2 : ∀ k, v2.ownBlock = some k -> k ≠ w.heap.size := fun k e q => by rcases h.f.l2 k e with z | z; exact absurd (h.f.s2 k z) (by omega); omega
 have nbox3 : ∀ k, v3.ownBlock = some k -> k ≠ w.heap.size := fun k e q => by rcases h.f.l3 k e with z | z; exact absurd (h.f.s3 k z) (by omega); omega
 have nbox4 : ∀ k, v4.ownBlock = some k -> k ≠ w.heap.size := fun k e q => by rcases h.f.l4 k e with z | z; exact absurd (h.f.s4 k z) (by omega); omega
 have nb2 : v4.ownBlock ≠ some (w.heap.size + 1) := fun e => by rcases h.f.l4 _ e with z | z; exact absurd (h.f.s4 _ z) (by omega); omega
 have b3 := h.gb.keep (kp w.heap.size (by omega) (fun e => nbox4 _ e rfl))
 have set : ∀ k, k ≠ w.heap.size -> (w4.setCell ⟨w.heap.size, 4, none⟩ v').heap[k]? = w4.heap[k]? := fun k hk => Below.heap_setCell w4 ⟨w.heap.size, 4, none⟩ v' k hk
 have nboxN : ∀ k, v'.ownBlock = some k -> k ≠ w.heap.size := fun k e q => by
  rcases ht with ⟨g, cap, e1, e2, -⟩ | ⟨cap, e2, -⟩
  ·rw [e2] at e; cases e; exact nbox4 g (by rw [e1]; rfl) q
  rw [e2] at e; have e' : w2.heap.size = k := Option.some.inj e; omega
 have rI : (w4.setCell ⟨w.heap.size, 4, none⟩ v').ownsRow B 83 3 v' (n4 + 1) (X4 ++ P) := zV ho fun k e => set k (nboxN k e)
 have cellSame : ∀ g, g < w.heap.size -> v4.ownBlock ≠ some g -> ∀ {j : Nat}, (w4.setCell ⟨w.heap.size, 4, none⟩ v').cell? ⟨g, j, none⟩ = V.cell? ⟨g, j, none⟩ := fun g hg hn j => by
  have e : (w4.setCell ⟨w.heap.size, 4, none⟩ v').heap[g]? = V.heap[g]? := (set g (by omega)).trans (kp g (by omega) hn)
  simp only [World.cell?, e]
 have qI : ∀ g, o4.ownBlock = some g -> ∀ j, j < O4.length -> (w4.setCell ⟨w.heap.size, 4, none⟩ v').cell? ⟨g, j, none⟩ = O4[j]? := fun g hg j hj => by
  by_cases hvg : v4.ownBlock = some g
  ·have hgs := h.f.s4 g hg
   rcases ht with ⟨g', cap, e1, e2, -⟩ | ⟨cap, e2, hgn⟩
   ·rw [e1] at hvg
    cases hvg
    rw [e2] at rI
    have hl := rI.1
    have hpl := h.f.p4.length_le
    have hXl := h.f.r4.1
    have e9 := rI.cellAt j (by rw [Nat.succ_mul]; omega)
    rw [<- e2] at e9
    rw [e9, List.getElem?_append_left (by omega)]
    obtain ⟨z, hz⟩ := h.f.p4
    rw [<- hz, List.getElem?_append_left hj]
   have e : (w4.setCell ⟨w.heap.size, 4, none⟩ v').heap[g]? = V.heap[g]? := (set g (by omega)).trans ((hgn.block g (by omega) (fun e => by cases e)).trans (hb.block g (by omega)))
   have e9 : (w4.setCell ⟨w.heap.size, 4, none⟩ v').cell? ⟨g, j, none⟩ = V.cell? ⟨g, j, none⟩ := by simp only [World.cell?, e]
   rw [e9]
   exact h.f.q4 g hg j hj
  rw [cellSame g (h.f.s4 g hg) hvg]
  exact h.f.q4 g hg j hj
 have lI : ∀ k, v'.ownBlock = some k -> o4.ownBlock = some k \/ w.heap.size + 2 <= k := fun k e => by
  rcases ht with ⟨g, cap, e1, e2, -⟩ | ⟨cap, e2, -⟩
  ·rw [e2] at e; cases e; exact h.f.l4 g (by rw [e1]; rfl)
  rw [e2] at e; have e' : w2.heap.size = k := Option.some.inj e; exact .inr (by omega)
 have hBw := h.f.hB
 obtain ⟨row, hg, hrow⟩ := xZ ht
 refine ⟨⟨b3.set 4 v', h.rb.keep ((set _ (by omega)).trans (kp _ (by omega) nb2)), ⟨(zV h.f.r1 fun k e => (set k (nbox1 k e)).trans (kp k (zR h.f.r1 k e) (fun q => (zO h.f.r4 h.f.r1 (by decide)) k q e))), (zV h.f.r2 fun k e => (set k (nbox2 k e)).trans (kp k (zR h.f.r2 k e) (fun q => (zO h.f.r4 h.f.r2 (by decide)) k q e))), (zV h.f.r3 fun k e => (set k (nbox3 k e)).trans (kp k (zR h.f.r3 k e) (fun q => h.f.n34.symm k q e))), rI, (NB.told h.f.n34.symm (fun k e => Nat.lt_of_lt_of_le (zR h.f.r3 k e) hsz) ht).symm, h.f.p1, h.f.p2, h.f.p3, (h.f.p4.trans (List.prefix_append _ _)), (fun g hg j hj => by rw [cellSame g (h.f.s1 g hg) (fun e => by rcases h.f.l4 g e with q | q; exact h.f.a14.symm g q hg; exact absurd (h.f.s1 g hg) (by omega))]; exact h.f.q1 g hg j hj), (fun g hg j hj => by rw [cellSame g (h.f.s2 g hg) (fun e => by rcases h.f.l4 g e with q | q; exact h.f.a24.symm g q hg; exact absurd (h.f.s2 g hg) (by omega))]; exact h.f.q2 g hg j hj), (fun g hg j hj => by rw [cellSame g (h.f.s3 g hg) (fun e => by rcases h.f.l4 g e with q | q; exact h.f.a34.symm g q hg; exact absurd (h.f.s3 g hg) (by omega))]; exact h.f.q3 g hg j hj), qI, h.f.l1, h.f.l2, h.f.l3, lI, h.f.s1, h.f.s2, h.f.s3, h.f.s4, h.f.a12, h.f.a13, h.f.a14, h.f.a23, h.f.a24, h.f.a34, fun k hk z1 z2 z3 z4 => ((set k (by omega)).trans (kp k (by omega) (fun e => by rcases h.f.l4 k e with q | q; exact z4 q; omega))).trans (h.f.fr k hk z1 z2 z3 z4), ?_, hBw⟩, ?_⟩, b3⟩
 ·have h1 : Below B w w2 := h.f.bel.trans (hb.mono (Nat.le_trans hBw h.f.bel.size))
  exact (zH h1 hg (fun k hk => zT h.f.r4 k (hrow k hk)) (Nat.le_trans hBw h1.size)).setCell (p := ⟨w.heap.size, 4, none⟩) hBw _
 have := tk.1
 rw [World.size_setCell]
 omega
theorem TJ (t : Nat) : ∀ u ∈ mA t, u.oneCell' = true := by
 intro u hu
 simp only [mA, List.mem_cons, List.not_mem_nil, or_false] at hu
 rcases hu with rfl | rfl | rfl <;> rfl
theorem TI (t : Nat) : ∀ u ∈ mE t, u.oneCell' = true := by
 intro u hu
 simp only [mE, List.mem_cons, List.not_mem_nil, or_false] at hu
 rcases hu with rfl | rfl | rfl | rfl | rfl <;> rfl
theorem YN (t q : Nat) : ∀ u ∈ mP t q, u.oneCell' = true := by
 intro u hu
 simp only [mP, List.mem_cons, List.not_mem_nil, or_false] at hu
 rcases hu with rfl | rfl | rfl <;> rfl
def VN (w : World) (B : Nat) (nv : Value) (o1 o2 o3 o4 : Value) (O1 O2 O3 O4 : List Value) (n1 n2 n3 n4 t : Nat) (e : Ending) (w' : World) : Prop :=
 ∃ y1 y2 y3 y4 e1 e2 e3 e4, e = .returned (.agg #[nv, .slice y1 (n1 + 16) e1, .slice y2 (n2 + 16) e2, .slice y3 (n3 + 16) e3, .slice y4 (n4 + 16) e4]) /\ GrF w B o1 o2 o3 o4 O1 O2 O3 O4 (.slice y1 (n1 + 16) e1) (.slice y2 (n2 + 16) e2) (.slice y3 (n3 + 16) e3) (.slice y4 (n4 + 16) e4) (n1 + 16) (n2 + 16) (n3 + 16) (n4 + 16) (O1 ++ zD 16 (mA t)) (O2 ++ zD 16 (mE t)) (O3 ++ zD 16 (mP t 1)) (O4 ++ zD 16 (mP t 2)) w'
theorem jS (B : Nat) (nv : Value) (x1 x2 x3 x4 : Option Addr) (n1 n2 n3 n4 d1 d2 d3 d4 t : Nat) (X1 X2 X3 X4 : List Value) (w : World) (h1 : w.ownsRow B 61 3 (.slice x1 n1 d1) n1 X1) (h2 : w.ownsRow B 64 5 (.slice x2 n2 d2) n2 X2) (h3 : w.ownsRow B 83 3 (.slice x3 n3 d3) n3 X3) (h4 : w.ownsRow B 83 3 (.slice x4 n4 d4) n4 X4) (hn : NB (.slice x3 n3 d3) (.slice x4 n4 d4)) (hB : B <= w.heap.size) (ht : t <= 255) (c1 : n1 <= 1000) (c2 : n2 <= 1000) (c3 : n3 <= 1000) (c4 : n4 <= 1000) (hnv : nv.oneCell' = true) :
 Calls Try.prog 31 #[.agg #[nv, .slice x1 n1 d1, .slice x2 n2 d2, .slice x3 n3 d3, .slice x4 n4 d4], .int .i64 (t : Int)] w (VN w B nv (.slice x1 n1 d1) (.slice x2 n2 d2) (.slice x3 n3 d3) (.slice x4 n4 d4) X1 X2 X3 X4 n1 n2 n3 n4 t) := by
 obtain ⟨RE, hRE⟩ : ∃ R, VN w B nv (.slice x1 n1 d1) (.slice x2 n2 d2) (.slice x3 n3 d3) (.slice x4 n4 d4) X1 X2 X3 X4 n1 n2 n3 n4 t = R := ⟨_, rfl⟩
 rw [hRE]
 have HRE := zZ hRE
 have D0 : Hid (dD w B nv (.slice x1 n1 d1) (.slice x2 n2 d2) (.slice x3 n3 d3) (.slice x4 n4 d4) X1 X2 X3 X4 (.slice x1 n1 d1) (.slice x2 n2 d2) (.slice x3 n3 d3) (.slice x4 n4 d4) (n1) (n2) (n3) (n4) (X1) (X2) (X3) (X4) ((w.alloc (.cells #[nv, .slice x1 n1 d1, .slice x2 n2 d2, .slice x3 n3 d3, .slice x4 n4 d4] 31)).alloc (.cells #[.string ⟨#[]⟩, .slice none 0 0, .slice none 0 0, .slice none 0 0, .slice none 0 0] 31))) := by
  have ba := (Below.refl w.heap.size w).alloc (Nat.le_refl _) (.cells #[nv, .slice x1 n1 d1, .slice x2 n2 d2, .slice x3 n3 d3, .slice x4 n4 d4] 31)
  have bb := (Below.refl _ _).alloc (Nat.le_refl _) (.cells #[.string ⟨#[]⟩, .slice none 0 0, .slice none 0 0, .slice none 0 0, .slice none 0 0] 31) (w := w.alloc (.cells #[nv, .slice x1 n1 d1, .slice x2 n2 d2, .slice x3 n3 d3, .slice x4 n4 d4] 31))
  have bc := ba.trans (bb.mono ba.size)
  have rb := zU 31 (w.alloc (.cells #[nv, .slice x1 n1 d1, .slice x2 n2 d2, .slice x3 n3 d3, .slice x4 n4 d4] 31)) #[.string ⟨#[]⟩, .slice none 0 0, .slice none 0 0, .slice none 0 0, .slice none 0 0]
  rw [World.size_alloc] at rb
  refine ⟨(zU 31 w _).below bb, rb, ⟨zS h1 bc, zS h2 bc, zS h3 bc, zS h4 bc, hn, List.prefix_refl _, List.prefix_refl _, List.prefix_refl _, List.prefix_refl _, fun g hg j hj => ?_, fun g hg j hj => ?_, fun g hg j hj => ?_, fun g hg j hj => ?_, fun k e => .inl e, fun k e => .inl e, fun k e => .inl e, fun k e => .inl e, zR h1, zR h2, zR h3, zR h4, zO h1 h2 (by decide), zO h1 h3 (by decide), zO h1 h4 (by decide), zO h2 h3 (by decide), zO h2 h4 (by decide), hn, fun k hk _ _ _ _ => bc.block k hk, bc.mono hB, hB⟩, by rw [World.size_alloc, World.size_alloc]; omega⟩
  ·exact rC (zS h1 bc) hg hj
  ·exact rC (zS h2 bc) hg hj
  ·exact rC (zS h3 bc) hg hj
  exact rC (zS h4 bc) hg hj
 have hcv : IntKind.u8.wrap (t : Int) = (t : Int) := by
  rw [IntKind.wrap_u8]
  omega
 have i1 : (n1 : Int) <= 1000 := by omega
 have i2 : (n2 : Int) <= 1000 := by omega
 have i3 : (n3 : Int) <= 1000 := by omega
 have i4 : (n4 : Int) <= 1000 := by omega
 obtain ⟨iA, hiA, hzA0, hzA1, hzA2⟩ := info_parts Try.infoA
 have JA := zZ hiA
 have JA0 := zZ hzA0
 have JA1 := zZ hzA1
 have JA2 := zZ hzA2
 obtain ⟨iE, hiE, hzE0, hzE1, hzE2⟩ := info_parts Try.infoE
 have JE := zZ hiE
 have JE0 := zZ hzE0
 have JE1 := zZ hzE1
 have JE2 := zZ hzE2
 obtain ⟨iP, hiP, hzP0, hzP1, hzP2⟩ := info_parts Try.infoP
 have JP := zZ hiP
 have JP0 := zZ hzP0
 have JP1 := zZ hzP1
 have JP2 := zZ hzP2
 clear h1 h2 h3 h4 hn hRE hB hiA hzA0 hzA1 hzA2 hiE hzE0 hzE1 hzE2 hiP hzP0 hzP1 hzP2
 go_enter Try.func31, Try.ntmps31
 go_upto_region 1 with fail
 generalize (w.alloc (.cells #[nv, .slice x1 n1 d1, .slice x2 n2 d2, .slice x3 n3 d3, .slice x4 n4 d4] 31)).alloc (.cells #[.string ⟨#[]⟩, .slice none 0 0, .slice none 0 0, .slice none 0 0, .slice none 0 0] 31) = W0 at *
 go_wp2
 go_loopg [5] 16 (fun gk v wr => ∃ (q : Nat) (y1 y2 y3 y4 : Option Addr) (e1 e2 e3 e4 : Nat), q <= 16 /\ gk = 16 - q /\ v = .int .i64 (q : Int) /\ dD w B nv (.slice x1 n1 d1) (.slice x2 n2 d2) (.slice x3 n3 d3) (.slice x4 n4 d4) X1 X2 X3 X4 (.slice y1 (n1 + q) e1) (.slice y2 (n2 + q) e2) (.slice y3 (n3 + q) e3) (.slice y4 (n4 + q) e4) (n1 + q) (n2 + q) (n3 + q) (n4 + q) (X1 ++ zD q (mA t)) (X2 ++ zD q (mE t)) (X3 ++ zD q (mP t 1)) (X4 ++ zD q (mP t 2)) wr)
 case atStart => exact ⟨0, x1, x2, x3, x4, d1, d2, d3, d4, Nat.zero_le _, rfl, rfl, by
  have e0 : ∀ m : List Value, zD 0 m = [] := fun m => rfl
  simp only [e0, List.append_nil, Nat.add_zero]
  exact D0.out⟩
 case round =>
  clear D0
  obtain ⟨q, y1, y2, y3, y4, e1, e2, e3, e4, hq, rfl, rfl, hD⟩ := hrel
  have D1 := zZ hD
  clear hD
  by_cases hlt : q < 16
  ·have hqi : (q : Int) < 16 := by omega
   have bv1 := (Below.refl wr.heap.size wr).alloc (Nat.le_refl _) (.cells #[.string ⟨#[]⟩, .int .u8 (t : Int), .slice none 0 0] 61)
   have BV1 := zZ bv1
   have DV1 := zZ D1.out
   have k1 : wr.cell? ⟨w.heap.size, 1, none⟩ = some (.slice y1 (n1 + q) e1) := D1.out.gb.cell rfl
   have kk1 : (wr.alloc (.cells #[.string ⟨#[]⟩, .int .u8 (t : Int), .slice none 0 0] 61)).cell? ⟨w.heap.size, 1, none⟩ = some (.slice y1 (n1 + q) e1) := zX bv1 k1
   have nw1 := vV wr 61 (mA t)
   clear bv1
   go_upto_region 5 with (at_builtin; refine zJ _ rfl (.tmp 11) (.tmp 15) 27 rfl B 61 iA (.agg #[.string ⟨#[]⟩, .int .u8 0, .slice none 0 0]) 3 48 Try.underlying27 JA.out JA0.out JA1.out JA2.out rfl (by decide) (.slice y1 (n1 + q) e1) (n1 + q) (X1 ++ zD q (mA t)) rfl (zS D1.out.f.r1 BV1.out) ⟨wr.heap.size, 0, none⟩ 1 1 (by decide) (mA t) rfl rfl nw1 (TJ t) (by unfold maxLen; omega) (by omega) (Nat.le_trans D1.out.f.hB (Nat.le_trans (Nat.le_trans (Nat.le_add_right _ 2) D1.out.big) BV1.out.size)) ?_; intro v' w4 ho ht; obtain ⟨D10, bk⟩ := D1.out.put1 BV1.out ho ht; obtain ⟨z1, f1, rfl⟩ := yG ht; have D2 := zZ D10; have s1 : w4.cell? ⟨w.heap.size, 1, none⟩ = some (.slice y1 (n1 + q) e1) := bk.cell rfl; have f9 := bk.frozen 1; clear ho ht D10 bk)
   clear k1 kk1 nw1 s1 f9
   generalize w4.setCell ⟨w.heap.size, 1, none⟩ (.slice z1 (n1 + q + 1) f1) = U1 at *
   have bv2 := (Below.refl U1.heap.size U1).alloc (Nat.le_refl _) (.cells #[.int .i64 (t : Int), .int .i64 0, .int .i64 0, .int .i64 0, .slice none 0 0] 64)
   have BV2 := zZ bv2
   have DV2 := zZ D2.out
   have k2 : U1.cell? ⟨w.heap.size, 2, none⟩ = some (.slice y2 (n2 + q) e2) := D2.out.gb.cell rfl
   have kk2 : (U1.alloc (.cells #[.int .i64 (t : Int), .int .i64 0, .int .i64 0, .int .i64 0, .slice none 0 0] 64)).cell? ⟨w.heap.size, 2, none⟩ = some (.slice y2 (n2 + q) e2) := zX bv2 k2
   have nw2 := vV U1 64 (mE t)
   clear bv2
   go_upto_region 6 with (at_builtin; refine zJ _ rfl (.tmp 19) (.tmp 22) 28 rfl B 64 iE (.agg #[.int .i64 0, .int .i64 0, .int .i64 0, .int .i64 0, .slice none 0 0]) 5 56 Try.underlying28 JE.out JE0.out JE1.out JE2.out rfl (by decide) (.slice y2 (n2 + q) e2) (n2 + q) (X2 ++ zD q (mE t)) rfl (zS D2.out.f.r2 BV2.out) ⟨U1.heap.size, 0, none⟩ 1 1 (by decide) (mE t) rfl rfl nw2 (TI t) (by unfold maxLen; omega) (by omega) (Nat.le_trans D2.out.f.hB (Nat.le_trans (Nat.le_trans (Nat.le_add_right _ 2) D2.out.big) BV2.out.size)) ?_; intro v' w4 ho ht; obtain ⟨D10, bk⟩ := D2.out.put2 BV2.out ho ht; obtain ⟨z2, f2, rfl⟩ := yG ht; have D3 := zZ D10; have s1 : w4.cell? ⟨w.heap.size, 2, none⟩ = some (.slice y2 (n2 + q) e2) := bk.cell rfl; have f9 := bk.frozen 2; clear ho ht D10 bk)
   clear k2 kk2 nw2 s1 f9
   generalize w4.setCell ⟨w.heap.size, 2, none⟩ (.slice z2 (n2 + q + 1) f2) = U2 at *
   have bv3 := (Below.refl U2.heap.size U2).alloc (Nat.le_refl _) (.cells #[.string ⟨#[]⟩, .int .i64 (t : Int), .int .i64 1] 83)
   have BV3 := zZ bv3
   have DV3 := zZ D3.out
   have k3 : U2.cell? ⟨w.heap.size, 3, none⟩ = some (.slice y3 (n3 + q) e3) := D3.out.gb.cell rfl
   have kk3 : (U2.alloc (.cells #[.string ⟨#[]⟩, .int .i64 (t : Int), .int .i64 1] 83)).cell? ⟨w.heap.size, 3, none⟩ = some (.slice y3 (n3 + q) e3) := zX bv3 k3
   have nw3 := vV U2 83 (mP t 1)
   clear bv3
   go_upto_region 7 with (at_builtin; refine zJ _ rfl (.tmp 26) (.tmp 29) 29 rfl B 83 iP (.agg #[.string ⟨#[]⟩, .int .i64 0, .int .i64 0]) 3 32 Try.underlying29 JP.out JP0.out JP1.out JP2.out rfl (by decide) (.slice y3 (n3 + q) e3) (n3 + q) (X3 ++ zD q (mP t 1)) rfl (zS D3.out.f.r3 BV3.out) ⟨U2.heap.size, 0, none⟩ 1 1 (by decide) (mP t 1) rfl rfl nw3 (YN t 1) (by unfold maxLen; omega) (by omega) (Nat.le_trans D3.out.f.hB (Nat.le_trans (Nat.le_trans (Nat.le_add_right _ 2) D3.out.big) BV3.out.size)) ?_; intro v' w4 ho ht; obtain ⟨D10, bk⟩ := D3.out.put3 BV3.out ho ht; obtain ⟨z3, f3, rfl⟩ := yG ht; have D4 := zZ D10; have s1 : w4.cell? ⟨w.heap.size, 3, none⟩ = some (.slice y3 (n3 + q) e3) := bk.cell rfl; have f9 := bk.frozen 3; clear ho ht D10 bk)
   clear k3 kk3 nw3 s1 f9
   generalize w4.setCell ⟨w.heap.size, 3, none⟩ (.slice z3 (n3 + q + 1) f3) = U3 at *
   have bv4 := (Below.refl U3.heap.size U3).alloc (Nat.le_refl _) (.cells #[.string ⟨#[]⟩, .int .i64 (t : Int), .int .i64 2] 83)
   have BV4 := zZ bv4
   have DV4 := zZ D4.out
   have k4 : U3.cell? ⟨w.heap.size, 4, none⟩ = some (.slice y4 (n4 + q) e4) := D4.out.gb.cell rfl
   have kk4 : (U3.alloc (.cells #[.string ⟨#[]⟩, .int .i64 (t : Int), .int .i64 2] 83)).cell? ⟨w.heap.size, 4, none⟩ = some (.slice y4 (n4 + q) e4) := zX bv4 k4
   have nw4 := vV U3 83 (mP t 2)
   clear bv4
   go_wp2_with (at_builtin; refine zJ _ rfl (.tmp 33) (.tmp 36) 29 rfl B 83 iP (.agg #[.string ⟨#[]⟩, .int .i64 0, .int .i64 0]) 3 32 Try.underlying29 JP.out JP0.out JP1.out JP2.out rfl (by decide) (.slice y4 (n4 + q) e4) (n4 + q) (X4 ++ zD q (mP t 2)) rfl (zS D4.out.f.r4 BV4.out) ⟨U3.heap.size, 0, none⟩ 1 1 (by decide) (mP t 2) rfl rfl nw4 (YN t 2) (by unfold maxLen; omega) (by omega) (Nat.le_trans D4.out.f.hB (Nat.le_trans (Nat.le_trans (Nat.le_add_right _ 2) D4.out.big) BV4.out.size)) ?_; intro v' w4 ho ht; obtain ⟨D10, bk⟩ := D4.out.put4 BV4.out ho ht; obtain ⟨z4, f4, rfl⟩ := yG ht; have D5 := zZ D10; have s1 : w4.cell? ⟨w.heap.size, 4, none⟩ = some (.slice y4 (n4 + q) e4) := bk.cell rfl; have f9 := bk.frozen 4; clear ho ht D10 bk)
   go_roundg (16 - (q + 1))
   case measure => omega
   case rel => exact ⟨q + 1, z1, z2, z3, z4, f1, f2, f3, f4, by omega, rfl, by go_num, by
    have r := D5.out
    simp only [List.append_assoc, <- uP, Nat.add_assoc] at r
    exact r⟩
  have hqi : ¬ (q : Int) < 16 := by omega
  have k0 : wr.cell? ⟨w.heap.size, 0, none⟩ = some nv := D1.out.gb.cell rfl
  have k1 : wr.cell? ⟨w.heap.size, 1, none⟩ = some (.slice y1 (n1 + q) e1) := D1.out.gb.cell rfl
  have k2 : wr.cell? ⟨w.heap.size, 2, none⟩ = some (.slice y2 (n2 + q) e2) := D1.out.gb.cell rfl
  have k3 : wr.cell? ⟨w.heap.size, 3, none⟩ = some (.slice y3 (n3 + q) e3) := D1.out.gb.cell rfl
  have k4 : wr.cell? ⟨w.heap.size, 4, none⟩ = some (.slice y4 (n4 + q) e4) := D1.out.gb.cell rfl
  go_wp2_with (refine zM _ rfl 31 (.tmp 4) (.tmp 39) rfl rfl (w.heap.size + 1) 31 _ _ rfl rfl D1.out.rb qZ rfl (by simp [hnv]; exact ⟨rfl, rfl, rfl, rfl⟩) ?_; intro w8 hN hU; have N8 := zZ hN; have U8 := zZ hU; clear hN hU)
  have t0 : w8.cell? ⟨w.heap.size + 1, 0, none⟩ = some nv := N8.out.cell rfl
  have t1 : w8.cell? ⟨w.heap.size + 1, 1, none⟩ = some (.slice y1 (n1 + q) e1) := N8.out.cell rfl
  have t2 : w8.cell? ⟨w.heap.size + 1, 2, none⟩ = some (.slice y2 (n2 + q) e2) := N8.out.cell rfl
  have t3 : w8.cell? ⟨w.heap.size + 1, 3, none⟩ = some (.slice y3 (n3 + q) e3) := N8.out.cell rfl
  have t4 : w8.cell? ⟨w.heap.size + 1, 4, none⟩ = some (.slice y4 (n4 + q) e4) := N8.out.cell rfl
  refine bodyPost_ret (v := .agg #[nv, .slice y1 (n1 + q) e1, .slice y2 (n2 + q) e2, .slice y3 (n3 + q) e3, .slice y4 (n4 + q) e4]) (by simp [results, Try.results31, go_sem, t0, t1, t2, t3, t4]) rfl ?_
  rw [<- HRE.out]
  have eq : q = 16 := by omega
  subst eq
  have d := D1.out.f
  have hb := D1.out.big
  have kp : ∀ {T c n : Nat} {v o : Value} {xs : List Value}, wr.ownsRow B T c v n xs -> (∀ k, v.ownBlock = some k -> o.ownBlock = some k \/ w.heap.size + 2 <= k) -> (∀ k, o.ownBlock = some k -> k < w.heap.size) -> w8.ownsRow B T c v n xs := fun r hl hs => zV r fun k e => U8.out.block k (zR r k e) (fun z => by rcases hl k e with y | y; exact absurd (hs k y) (by omega); omega)
  have cs : ∀ g, g < w.heap.size -> ∀ j, w8.cell? ⟨g, j, none⟩ = wr.cell? ⟨g, j, none⟩ := fun g hg j => by
   have e := U8.out.block g (by omega) (by omega)
   simp only [World.cell?, e]
  exact ⟨y1, y2, y3, y4, e1, e2, e3, e4, rfl, ⟨kp d.r1 d.l1 d.s1, kp d.r2 d.l2 d.s2, kp d.r3 d.l3 d.s3, kp d.r4 d.l4 d.s4, d.n34, d.p1, d.p2, d.p3, d.p4, fun g hg j hj => (cs g (d.s1 g hg) j).trans (d.q1 g hg j hj), fun g hg j hj => (cs g (d.s2 g hg) j).trans (d.q2 g hg j hj), fun g hg j hj => (cs g (d.s3 g hg) j).trans (d.q3 g hg j hj), fun g hg j hj => (cs g (d.s4 g hg) j).trans (d.q4 g hg j hj), d.l1, d.l2, d.l3, d.l4, d.s1, d.s2, d.s3, d.s4, d.a12, d.a13, d.a14, d.a23, d.a24, d.a34, fun k hk z1 z2 z3 z4 => (U8.out.block k (by omega) (by omega)).trans (d.fr k hk z1 z2 z3 z4), d.bel.trans (U8.out.below (Nat.le_trans d.hB (Nat.le_succ _)) (Nat.le_trans d.hB d.bel.size)), d.hB⟩⟩
def dC (w : World) (x : Option Addr) (n s j : Nat) (v : Value) : Prop := ∀ k, k < n -> ∃ g m, x = some ⟨g, m, none⟩ /\ w.cell? ⟨g, m + k * s + j, none⟩ = some v
theorem dC.below {w w' : World} {b : Nat} {x : Option Addr} {n s j : Nat} {v : Value} (h : dC w x n s j v) (hb : Below b w w') (hl : ∀ g m, x = some ⟨g, m, none⟩ -> g < b) : dC w' x n s j v := fun k hk => by
 obtain ⟨g, m, e, c⟩ := h k hk
 refine ⟨g, m, e, ?_⟩
 have q := hb.block g (hl g m e)
 simp only [World.cell?] at c ⊢
 rw [q]
 exact c
theorem dC.keep {w w' : World} {x : Option Addr} {n s j : Nat} {v : Value} (h : dC w x n s j v) (hl : ∀ g m, x = some ⟨g, m, none⟩ -> w'.heap[g]? = w.heap[g]?) : dC w' x n s j v := fun k hk => by
 obtain ⟨g, m, e, c⟩ := h k hk
 refine ⟨g, m, e, ?_⟩
 have q := hl g m e
 simp only [World.cell?] at c ⊢
 rw [q]
 exact c
structure UW (w : World) (x1 x2 x3 x4 : Option Addr) (n1 n2 n3 n4 t : Nat) : Prop where
 m11 : dC w x1 n1 3 1 (.int .u8 (t : Int))
 m20 : dC w x2 n2 5 0 (.int .i64 (t : Int))
 m31 : dC w x3 n3 3 1 (.int .i64 (t : Int))
 m32 : dC w x3 n3 3 2 (.int .i64 1)
 m41 : dC w x4 n4 3 1 (.int .i64 (t : Int))
 m42 : dC w x4 n4 3 2 (.int .i64 2)
theorem UW.keep {w w' : World} {x1 x2 x3 x4 : Option Addr} {n1 n2 n3 n4 t : Nat} (h : UW w x1 x2 x3 x4 n1 n2 n3 n4 t) (hl : ∀ g m, (x1 = some ⟨g, m, none⟩ \/ x2 = some ⟨g, m, none⟩ \/ x3 = some ⟨g, m, none⟩ \/ x4 = some ⟨g, m, none⟩) -> w'.heap[g]? = w.heap[g]?) : UW w' x1 x2 x3 x4 n1 n2 n3 n4 t :=
 ⟨h.m11.keep fun g m e => hl g m (.inl e), h.m20.keep fun g m e => hl g m (.inr (.inl e)), h.m31.keep fun g m e => hl g m (.inr (.inr (.inl e))), h.m32.keep fun g m e => hl g m (.inr (.inr (.inl e))), h.m41.keep fun g m e => hl g m (.inr (.inr (.inr e))), h.m42.keep fun g m e => hl g m (.inr (.inr (.inr e)))⟩
theorem sM (nv : Value) (x1 x2 x3 x4 : Option Addr) (n1 n2 n3 n4 d1 d2 d3 d4 t : Nat) (w : World) (h : UW w x1 x2 x3 x4 n1 n2 n3 n4 t) (hlt : ∀ g m, (x1 = some ⟨g, m, none⟩ \/ x2 = some ⟨g, m, none⟩ \/ x3 = some ⟨g, m, none⟩ \/ x4 = some ⟨g, m, none⟩) -> g < w.heap.size) (ht : t <= 255) (l1 : n1 <= 2000) (l2 : n2 <= 2000) (l3 : n3 <= 2000) (l4 : n4 <= 2000) :
 Calls Try.prog 32 #[.agg #[nv, .slice x1 n1 d1, .slice x2 n2 d2, .slice x3 n3 d3, .slice x4 n4 d4], .int .i64 (t : Int)] w (fun e w' => e = .returned (.bool true) /\ Below w.heap.size w w') := by
 have bz := (Below.refl w.heap.size w).alloc (Nat.le_refl _) (.cells #[nv, .slice x1 n1 d1, .slice x2 n2 d2, .slice x3 n3 d3, .slice x4 n4 d4] 31)
 have M : Hid (UW (w.alloc (.cells #[nv, .slice x1 n1 d1, .slice x2 n2 d2, .slice x3 n3 d3, .slice x4 n4 d4] 31)) x1 x2 x3 x4 n1 n2 n3 n4 t) := h.keep fun g m e => bz.block g (hlt g m e)
 have HB := zZ bz
 have y1 : (w.alloc (.cells #[nv, .slice x1 n1 d1, .slice x2 n2 d2, .slice x3 n3 d3, .slice x4 n4 d4] 31)).cell? ⟨w.heap.size, 1, none⟩ = some (.slice x1 n1 d1) := (zU 31 w _).cell rfl
 have y2 : (w.alloc (.cells #[nv, .slice x1 n1 d1, .slice x2 n2 d2, .slice x3 n3 d3, .slice x4 n4 d4] 31)).cell? ⟨w.heap.size, 2, none⟩ = some (.slice x2 n2 d2) := (zU 31 w _).cell rfl
 have y3 : (w.alloc (.cells #[nv, .slice x1 n1 d1, .slice x2 n2 d2, .slice x3 n3 d3, .slice x4 n4 d4] 31)).cell? ⟨w.heap.size, 3, none⟩ = some (.slice x3 n3 d3) := (zU 31 w _).cell rfl
 have y4 : (w.alloc (.cells #[nv, .slice x1 n1 d1, .slice x2 n2 d2, .slice x3 n3 d3, .slice x4 n4 d4] 31)).cell? ⟨w.heap.size, 4, none⟩ = some (.slice x4 n4 d4) := (zU 31 w _).cell rfl
 have hcv : IntKind.u8.wrap (t : Int) = (t : Int) := by
  rw [IntKind.wrap_u8]
  omega
 have i1 : (n1 : Int) <= 2000 := by omega
 have i2 : (n2 : Int) <= 2000 := by omega
 have i3 : (n3 : Int) <= 2000 := by omega
 have i4 : (n4 : Int) <= 2000 := by omega
 clear h hlt bz
 go_enter Try.func32, Try.ntmps32
 go_upto_region 1 with fail
 generalize w.alloc (.cells #[nv, .slice x1 n1 d1, .slice x2 n2 d2, .slice x3 n3 d3, .slice x4 n4 d4] 31) = W0 at *
 go_wp2
 go_loopg [5] n1 (fun gk v wr => ∃ k : Nat, k <= n1 /\ gk = n1 - k /\ v = .int .i64 (k : Int) /\ W0 = wr)
 case atStart => exact ⟨0, Nat.zero_le _, rfl, rfl, rfl⟩
 case round =>
  obtain ⟨k, hk, rfl, rfl, rfl⟩ := hrel
  by_cases hlt : k < n1
  ·have hki : (k : Int) < (n1 : Int) := by omega
   obtain ⟨g, m, e1, c1⟩ := M.out.m11 k hlt
   clear M
   subst e1
   go_wp2
   go_roundg (n1 - (k + 1))
   case measure => omega
   case rel => exact ⟨k + 1, by omega, rfl, by go_num, rfl⟩
  have hki : ¬ (k : Int) < (n1 : Int) := by omega
  go_wp2
  clear hk hlt hki
  go_loopg [6] n2 (fun gk v wr => ∃ k : Nat, k <= n2 /\ gk = n2 - k /\ v = .int .i64 (k : Int) /\ W0 = wr)
  case atStart => exact ⟨0, Nat.zero_le _, rfl, rfl, rfl⟩
  case round =>
   obtain ⟨k, hk, rfl, rfl, rfl⟩ := hrel
   by_cases hlt : k < n2
   ·have hki : (k : Int) < (n2 : Int) := by omega
    obtain ⟨g, m, e1, c0⟩ := M.out.m20 k hlt
    simp only [Nat.add_zero] at c0
    clear M
    subst e1
    go_wp2
    go_roundg (n2 - (k + 1))
    case measure => omega
    case rel => exact ⟨k + 1, by omega, rfl, by go_num, rfl⟩
   have hki : ¬ (k : Int) < (n2 : Int) := by omega
   go_wp2
   clear hk hlt hki
   go_loopg [7] n3 (fun gk v wr => ∃ k : Nat, k <= n3 /\ gk = n3 - k /\ v = .int .i64 (k : Int) /\ W0 = wr)
   case atStart => exact ⟨0, Nat.zero_le _, rfl, rfl, rfl⟩
   case round =>
    obtain ⟨k, hk, rfl, rfl, rfl⟩ := hrel
    by_cases hlt : k < n3
    ·have hki : (k : Int) < (n3 : Int) := by omega
     obtain ⟨g, m, e1, c1⟩ := M.out.m31 k hlt
     obtain ⟨g2, m2, e2, c2⟩ := M.out.m32 k hlt
     rw [e1] at e2
     cases e2
     clear M
     subst e1
     go_wp2
     go_roundg (n3 - (k + 1))
     case measure => omega
     case rel => exact ⟨k + 1, by omega, rfl, by go_num, rfl⟩
    have hki : ¬ (k : Int) < (n3 : Int) := by omega
    go_wp2
    clear hk hlt hki
    go_loopg [8] n4 (fun gk v wr => ∃ k : Nat, k <= n4 /\ gk = n4 - k /\ v = .int .i64 (k : Int) /\ W0 = wr)
    case atStart => exact ⟨0, Nat.zero_le _, rfl, rfl, rfl⟩
    case round =>
     obtain ⟨k, hk, rfl, rfl, rfl⟩ := hrel
     by_cases hlt : k < n4
     ·have hki : (k : Int) < (n4 : Int) := by omega
      obtain ⟨g, m, e1, c1⟩ := M.out.m41 k hlt
      obtain ⟨g2, m2, e2, c2⟩ := M.out.m42 k hlt
      rw [e1] at e2
      cases e2
      clear M
      subst e1
      go_wp2
      go_roundg (n4 - (k + 1))
      case measure => omega
      case rel => exact ⟨k + 1, by omega, rfl, by go_num, rfl⟩
     have hki : ¬ (k : Int) < (n4 : Int) := by omega
     go_wp2
     refine bodyPost_ret (v := .bool true) (by simp [results, Try.results32, go_sem]) rfl ?_
     exact ⟨rfl, HB.out⟩
theorem lM (nv nu : Value) (x1 x2 x3 x4 : Option Addr) (n1 n2 n3 n4 d1 d2 d3 d4 g1 g2 g3 g4 e1 e2 e3 e4 : Nat) (w : World) (h1 : n1 + 16 <= e1) (h2 : n2 + 16 <= e2) (h3 : n3 + 16 <= e3) (h4 : n4 + 16 <= e4) :
 Calls Try.prog 33 #[.agg #[nv, .slice (some ⟨g1, 0, none⟩) (n1 + 16) e1, .slice (some ⟨g2, 0, none⟩) (n2 + 16) e2, .slice (some ⟨g3, 0, none⟩) (n3 + 16) e3, .slice (some ⟨g4, 0, none⟩) (n4 + 16) e4], .agg #[nu, .slice x1 n1 d1, .slice x2 n2 d2, .slice x3 n3 d3, .slice x4 n4 d4]] w (fun e w' => e = .returned (.agg #[.string ⟨#[]⟩, .slice (some ⟨g1, n1 * 3, none⟩) 16 (e1 - n1), .slice (some ⟨g2, n2 * 5, none⟩) 16 (e2 - n2), .slice (some ⟨g3, n3 * 3, none⟩) 16 (e3 - n3), .slice (some ⟨g4, n4 * 3, none⟩) 16 (e4 - n4)]) /\ Below w.heap.size w w') := by
 have b1 := (Below.refl w.heap.size w).alloc (Nat.le_refl _) (.cells #[nv, .slice (some ⟨g1, 0, none⟩) (n1 + 16) e1, .slice (some ⟨g2, 0, none⟩) (n2 + 16) e2, .slice (some ⟨g3, 0, none⟩) (n3 + 16) e3, .slice (some ⟨g4, 0, none⟩) (n4 + 16) e4] 31)
 have b2 := (Below.refl _ _).alloc (Nat.le_refl _) (.cells #[nu, .slice x1 n1 d1, .slice x2 n2 d2, .slice x3 n3 d3, .slice x4 n4 d4] 31) (w := w.alloc (.cells #[nv, .slice (some ⟨g1, 0, none⟩) (n1 + 16) e1, .slice (some ⟨g2, 0, none⟩) (n2 + 16) e2, .slice (some ⟨g3, 0, none⟩) (n3 + 16) e3, .slice (some ⟨g4, 0, none⟩) (n4 + 16) e4] 31))
 have b3 := (Below.refl _ _).alloc (Nat.le_refl _) (.cells #[.string ⟨#[]⟩, .slice none 0 0, .slice none 0 0, .slice none 0 0, .slice none 0 0] 31) (w := (w.alloc (.cells #[nv, .slice (some ⟨g1, 0, none⟩) (n1 + 16) e1, .slice (some ⟨g2, 0, none⟩) (n2 + 16) e2, .slice (some ⟨g3, 0, none⟩) (n3 + 16) e3, .slice (some ⟨g4, 0, none⟩) (n4 + 16) e4] 31)).alloc (.cells #[nu, .slice x1 n1 d1, .slice x2 n2 d2, .slice x3 n3 d3, .slice x4 n4 d4] 31))
 have cb := ((zU 31 w #[nv, .slice (some ⟨g1, 0, none⟩) (n1 + 16) e1, .slice (some ⟨g2, 0, none⟩) (n2 + 16) e2, .slice (some ⟨g3, 0, none⟩) (n3 + 16) e3, .slice (some ⟨g4, 0, none⟩) (n4 + 16) e4]).below b2).below b3
 have ab := (zU 31 (w.alloc (.cells #[nv, .slice (some ⟨g1, 0, none⟩) (n1 + 16) e1, .slice (some ⟨g2, 0, none⟩) (n2 + 16) e2, .slice (some ⟨g3, 0, none⟩) (n3 + 16) e3, .slice (some ⟨g4, 0, none⟩) (n4 + 16) e4] 31)) #[nu, .slice x1 n1 d1, .slice x2 n2 d2, .slice x3 n3 d3, .slice x4 n4 d4]).below b3
 rw [World.size_alloc] at ab
 have rb := zU 31 ((w.alloc (.cells #[nv, .slice (some ⟨g1, 0, none⟩) (n1 + 16) e1, .slice (some ⟨g2, 0, none⟩) (n2 + 16) e2, .slice (some ⟨g3, 0, none⟩) (n3 + 16) e3, .slice (some ⟨g4, 0, none⟩) (n4 + 16) e4] 31)).alloc (.cells #[nu, .slice x1 n1 d1, .slice x2 n2 d2, .slice x3 n3 d3, .slice x4 n4 d4] 31)) #[.string ⟨#[]⟩, .slice none 0 0, .slice none 0 0, .slice none 0 0, .slice none 0 0]
 rw [World.size_alloc, World.size_alloc] at rb
 have BA := zZ ((b1.trans (b2.mono b1.size)).trans (b3.mono (Nat.le_trans b1.size b2.size)))
 have RB := zZ rb
 have y1 := cb.cell (k := 1) rfl
 have z1 := ab.cell (k := 1) rfl
 have y2 := cb.cell (k := 2) rfl
 have z2 := ab.cell (k := 2) rfl
 have y3 := cb.cell (k := 3) rfl
 have z3 := ab.cell (k := 3) rfl
 have y4 := cb.cell (k := 4) rfl
 have z4 := ab.cell (k := 4) rfl
 have r1 : ¬ e1 = n1 := by omega
 have r2 : ¬ e2 = n2 := by omega
 have r3 : ¬ e3 = n3 := by omega
 have r4 : ¬ e4 = n4 := by omega
 clear b1 b2 b3 cb ab rb
 go_enter Try.func33, Try.ntmps33
 go_upto_region 1 with fail
 generalize ((w.alloc (.cells #[nv, .slice (some ⟨g1, 0, none⟩) (n1 + 16) e1, .slice (some ⟨g2, 0, none⟩) (n2 + 16) e2, .slice (some ⟨g3, 0, none⟩) (n3 + 16) e3, .slice (some ⟨g4, 0, none⟩) (n4 + 16) e4] 31)).alloc (.cells #[nu, .slice x1 n1 d1, .slice x2 n2 d2, .slice x3 n3 d3, .slice x4 n4 d4] 31)).alloc (.cells #[.string ⟨#[]⟩, .slice none 0 0, .slice none 0 0, .slice none 0 0, .slice none 0 0] 31) = W0 at *
 refine zP 25 (fun i u v => match i with
  | 0 => v = .pointer (some ⟨w.heap.size, 1, none⟩)
  | 1 => v = .slice (some ⟨g1, 0, none⟩) (n1 + 16) e1
  | 2 => v = .pointer (some ⟨w.heap.size + 1, 1, none⟩)
  | 3 => v = .slice x1 n1 d1
  | 4 => v = .int .i64 (n1 : Int)
  | 5 => v = .slice (some ⟨g1, n1 * 3, none⟩) 16 (e1 - n1)
  | 6 => v = .pointer (some ⟨w.heap.size, 2, none⟩)
  | 7 => v = .slice (some ⟨g2, 0, none⟩) (n2 + 16) e2
  | 8 => v = .pointer (some ⟨w.heap.size + 1, 2, none⟩)
  | 9 => v = .slice x2 n2 d2
  | 10 => v = .int .i64 (n2 : Int)
  | 11 => v = .slice (some ⟨g2, n2 * 5, none⟩) 16 (e2 - n2)
  | 12 => v = .pointer (some ⟨w.heap.size, 3, none⟩)
  | 13 => v = .slice (some ⟨g3, 0, none⟩) (n3 + 16) e3
  | 14 => v = .pointer (some ⟨w.heap.size + 1, 3, none⟩)
  | 15 => v = .slice x3 n3 d3
  | 16 => v = .int .i64 (n3 : Int)
  | 17 => v = .slice (some ⟨g3, n3 * 3, none⟩) 16 (e3 - n3)
  | 18 => v = .pointer (some ⟨w.heap.size, 4, none⟩)
  | 19 => v = .slice (some ⟨g4, 0, none⟩) (n4 + 16) e4
  | 20 => v = .pointer (some ⟨w.heap.size + 1, 4, none⟩)
  | 21 => v = .slice x4 n4 d4
  | 22 => v = .int .i64 (n4 : Int)
  | 23 => v = .slice (some ⟨g4, n4 * 3, none⟩) 16 (e4 - n4)
  | 24 => v = .agg #[.string ⟨#[]⟩, .slice (some ⟨g1, n1 * 3, none⟩) 16 (e1 - n1), .slice (some ⟨g2, n2 * 5, none⟩) 16 (e2 - n2), .slice (some ⟨g3, n3 * 3, none⟩) 16 (e3 - n3), .slice (some ⟨g4, n4 * 3, none⟩) 16 (e4 - n4)]
  | _ => True) (by kernel_rfl) (by kernel_rfl) (by kernel_rfl) (by kernel_rfl) ?_ ?_ ?_
 ·intro i w v w' h hb
  match i, h with
  | 0, h => exact h
  | 1, h => exact h
  | 2, h => exact h
  | 3, h => exact h
  | 4, h => exact h
  | 5, h => exact h
  | 6, h => exact h
  | 7, h => exact h
  | 8, h => exact h
  | 9, h => exact h
  | 10, h => exact h
  | 11, h => exact h
  | 12, h => exact h
  | 13, h => exact h
  | 14, h => exact h
  | 15, h => exact h
  | 16, h => exact h
  | 17, h => exact h
  | 18, h => exact h
  | 19, h => exact h
  | 20, h => exact h
  | 21, h => exact h
  | 22, h => exact h
  | 23, h => exact h
  | 24, h => exact h
  | _ + 25, _ => trivial
 ·intro i o ρ w' hi ho hb hc hf hfr zY
  have k1 := zX hb y1
  have k2 := zX hb y2
  have k3 := zX hb y3
  have k4 := zX hb y4
  have m1 := zX hb z1
  have m2 := zX hb z2
  have m3 := zX hb z3
  have m4 := zX hb z4
  match i, hi with
  | 0, _ =>
   simp only [qS] at ho
   subst ho
   have ts : ρ (.tmp 2) = .pointer (some ⟨w.heap.size, 0, none⟩) := hfr 2 (by kernel_rfl)
   simp [go_sem, ts]
   exact qB
  | 1, _ =>
   simp only [qS] at ho
   subst ho
   have ts : ρ (.tmp 5) = .pointer (some ⟨w.heap.size, 1, none⟩) := zY 0 5 (by kernel_rfl) (by kernel_rfl)
   simp [go_sem, ts, k1]
   exact qB
  | 2, _ =>
   simp only [qS] at ho
   subst ho
   have ts : ρ (.tmp 3) = .pointer (some ⟨w.heap.size + 1, 0, none⟩) := hfr 3 (by kernel_rfl)
   simp [go_sem, ts]
   exact qB
  | 3, _ =>
   simp only [qS] at ho
   subst ho
   have ts : ρ (.tmp 7) = .pointer (some ⟨w.heap.size + 1, 1, none⟩) := zY 2 7 (by kernel_rfl) (by kernel_rfl)
   simp [go_sem, ts, m1]
   exact qB
  | 4, _ =>
   simp only [qS] at ho
   subst ho
   have t0 : ρ (.tmp 8) = .slice x1 n1 d1 := zY 3 8 (by kernel_rfl) (by kernel_rfl)
   simp [go_sem, t0]
   exact qB
  | 5, _ =>
   simp only [qS] at ho
   subst ho
   have t0 : ρ (.tmp 6) = .slice (some ⟨g1, 0, none⟩) (n1 + 16) e1 := zY 1 6 (by kernel_rfl) (by kernel_rfl)
   have t1 : ρ (.tmp 9) = .int .i64 (n1 : Int) := zY 4 9 (by kernel_rfl) (by kernel_rfl)
   simp [go_sem, Instr.slice, Instr.sliceBounds, Instr.sliceBound, t0, t1, r1]
   exact qB
  | 6, _ =>
   simp only [qS] at ho
   subst ho
   have ts : ρ (.tmp 2) = .pointer (some ⟨w.heap.size, 0, none⟩) := hfr 2 (by kernel_rfl)
   simp [go_sem, ts]
   exact qB
  | 7, _ =>
   simp only [qS] at ho
   subst ho
   have ts : ρ (.tmp 11) = .pointer (some ⟨w.heap.size, 2, none⟩) := zY 6 11 (by kernel_rfl) (by kernel_rfl)
   simp [go_sem, ts, k2]
   exact qB
  | 8, _ =>
   simp only [qS] at ho
   subst ho
   have ts : ρ (.tmp 3) = .pointer (some ⟨w.heap.size + 1, 0, none⟩) := hfr 3 (by kernel_rfl)
   simp [go_sem, ts]
   exact qB
  | 9, _ =>
   simp only [qS] at ho
   subst ho
   have ts : ρ (.tmp 13) = .pointer (some ⟨w.heap.size + 1, 2, none⟩) := zY 8 13 (by kernel_rfl) (by kernel_rfl)
   simp [go_sem, ts, m2]
   exact qB
  | 10, _ =>
   simp only [qS] at ho
   subst ho
   have t0 : ρ (.tmp 14) = .slice x2 n2 d2 := zY 9 14 (by kernel_rfl) (by kernel_rfl)
   simp [go_sem, t0]
   exact qB
  | 11, _ =>
   simp only [qS] at ho
   subst ho
   have t0 : ρ (.tmp 12) = .slice (some ⟨g2, 0, none⟩) (n2 + 16) e2 := zY 7 12 (by kernel_rfl) (by kernel_rfl)
   have t1 : ρ (.tmp 15) = .int .i64 (n2 : Int) := zY 10 15 (by kernel_rfl) (by kernel_rfl)
   simp [go_sem, Instr.slice, Instr.sliceBounds, Instr.sliceBound, t0, t1, r2]
   exact qB
  | 12, _ =>
   simp only [qS] at ho
   subst ho
   have ts : ρ (.tmp 2) = .pointer (some ⟨w.heap.size, 0, none⟩) := hfr 2 (by kernel_rfl)
   simp [go_sem, ts]
   exact qB
  | 13, _ =>
   simp only [qS] at ho
   subst ho
   have ts : ρ (.tmp 17) = .pointer (some ⟨w.heap.size, 3, none⟩) := zY 12 17 (by kernel_rfl) (by kernel_rfl)
   simp [go_sem, ts, k3]
   exact qB
  | 14, _ =>
   simp only [qS] at ho
   subst ho
   have ts : ρ (.tmp 3) = .pointer (some ⟨w.heap.size + 1, 0, none⟩) := hfr 3 (by kernel_rfl)
   simp [go_sem, ts]
   exact qB
  | 15, _ =>
   simp only [qS] at ho
   subst ho
   have ts : ρ (.tmp 19) = .pointer (some ⟨w.heap.size + 1, 3, none⟩) := zY 14 19 (by kernel_rfl) (by kernel_rfl)
   simp [go_sem, ts, m3]
   exact qB
  | 16, _ =>
   simp only [qS] at ho
   subst ho
   have t0 : ρ (.tmp 20) = .slice x3 n3 d3 := zY 15 20 (by kernel_rfl) (by kernel_rfl)
   simp [go_sem, t0]
   exact qB
  | 17, _ =>
   simp only [qS] at ho
   subst ho
   have t0 : ρ (.tmp 18) = .slice (some ⟨g3, 0, none⟩) (n3 + 16) e3 := zY 13 18 (by kernel_rfl) (by kernel_rfl)
   have t1 : ρ (.tmp 21) = .int .i64 (n3 : Int) := zY 16 21 (by kernel_rfl) (by kernel_rfl)
   simp [go_sem, Instr.slice, Instr.sliceBounds, Instr.sliceBound, t0, t1, r3]
   exact qB
  | 18, _ =>
   simp only [qS] at ho
   subst ho
   have ts : ρ (.tmp 2) = .pointer (some ⟨w.heap.size, 0, none⟩) := hfr 2 (by kernel_rfl)
   simp [go_sem, ts]
   exact qB
  | 19, _ =>
   simp only [qS] at ho
   subst ho
   have ts : ρ (.tmp 23) = .pointer (some ⟨w.heap.size, 4, none⟩) := zY 18 23 (by kernel_rfl) (by kernel_rfl)
   simp [go_sem, ts, k4]
   exact qB
  | 20, _ =>
   simp only [qS] at ho
   subst ho
   have ts : ρ (.tmp 3) = .pointer (some ⟨w.heap.size + 1, 0, none⟩) := hfr 3 (by kernel_rfl)
   simp [go_sem, ts]
   exact qB
  | 21, _ =>
   simp only [qS] at ho
   subst ho
   have ts : ρ (.tmp 25) = .pointer (some ⟨w.heap.size + 1, 4, none⟩) := zY 20 25 (by kernel_rfl) (by kernel_rfl)
   simp [go_sem, ts, m4]
   exact qB
  | 22, _ =>
   simp only [qS] at ho
   subst ho
   have t0 : ρ (.tmp 26) = .slice x4 n4 d4 := zY 21 26 (by kernel_rfl) (by kernel_rfl)
   simp [go_sem, t0]
   exact qB
  | 23, _ =>
   simp only [qS] at ho
   subst ho
   have t0 : ρ (.tmp 24) = .slice (some ⟨g4, 0, none⟩) (n4 + 16) e4 := zY 19 24 (by kernel_rfl) (by kernel_rfl)
   have t1 : ρ (.tmp 27) = .int .i64 (n4 : Int) := zY 22 27 (by kernel_rfl) (by kernel_rfl)
   simp [go_sem, Instr.slice, Instr.sliceBounds, Instr.sliceBound, t0, t1, r4]
   exact qB
  | 24, _ =>
   simp only [qS] at ho
   subst ho
   have t1 : ρ (.tmp 10) = .slice (some ⟨g1, n1 * 3, none⟩) 16 (e1 - n1) := zY 5 10 (by kernel_rfl) (by kernel_rfl)
   have t2 : ρ (.tmp 16) = .slice (some ⟨g2, n2 * 5, none⟩) 16 (e2 - n2) := zY 11 16 (by kernel_rfl) (by kernel_rfl)
   have t3 : ρ (.tmp 22) = .slice (some ⟨g3, n3 * 3, none⟩) 16 (e3 - n3) := zY 17 22 (by kernel_rfl) (by kernel_rfl)
   have t4 : ρ (.tmp 28) = .slice (some ⟨g4, n4 * 3, none⟩) 16 (e4 - n4) := zY 23 28 (by kernel_rfl) (by kernel_rfl)
   simp [go_sem, t1, t2, t3, t4]
   exact qB
  | k + 25, h => exact absurd h (by omega)
 intro V w9 q9 hS
 have e_0 : V 0 = .pointer (some ⟨w.heap.size, 1, none⟩) := hS 0 (by decide)
 have e_1 : V 1 = .slice (some ⟨g1, 0, none⟩) (n1 + 16) e1 := hS 1 (by decide)
 have e_2 : V 2 = .pointer (some ⟨w.heap.size + 1, 1, none⟩) := hS 2 (by decide)
 have e_3 : V 3 = .slice x1 n1 d1 := hS 3 (by decide)
 have e_4 : V 4 = .int .i64 (n1 : Int) := hS 4 (by decide)
 have e_5 : V 5 = .slice (some ⟨g1, n1 * 3, none⟩) 16 (e1 - n1) := hS 5 (by decide)
 have e_6 : V 6 = .pointer (some ⟨w.heap.size, 2, none⟩) := hS 6 (by decide)
 have e_7 : V 7 = .slice (some ⟨g2, 0, none⟩) (n2 + 16) e2 := hS 7 (by decide)
 have e_8 : V 8 = .pointer (some ⟨w.heap.size + 1, 2, none⟩) := hS 8 (by decide)
 have e_9 : V 9 = .slice x2 n2 d2 := hS 9 (by decide)
 have e_10 : V 10 = .int .i64 (n2 : Int) := hS 10 (by decide)
 have e_11 : V 11 = .slice (some ⟨g2, n2 * 5, none⟩) 16 (e2 - n2) := hS 11 (by decide)
 have e_12 : V 12 = .pointer (some ⟨w.heap.size, 3, none⟩) := hS 12 (by decide)
 have e_13 : V 13 = .slice (some ⟨g3, 0, none⟩) (n3 + 16) e3 := hS 13 (by decide)
 have e_14 : V 14 = .pointer (some ⟨w.heap.size + 1, 3, none⟩) := hS 14 (by decide)
 have e_15 : V 15 = .slice x3 n3 d3 := hS 15 (by decide)
 have e_16 : V 16 = .int .i64 (n3 : Int) := hS 16 (by decide)
 have e_17 : V 17 = .slice (some ⟨g3, n3 * 3, none⟩) 16 (e3 - n3) := hS 17 (by decide)
 have e_18 : V 18 = .pointer (some ⟨w.heap.size, 4, none⟩) := hS 18 (by decide)
 have e_19 : V 19 = .slice (some ⟨g4, 0, none⟩) (n4 + 16) e4 := hS 19 (by decide)
 have e_20 : V 20 = .pointer (some ⟨w.heap.size + 1, 4, none⟩) := hS 20 (by decide)
 have e_21 : V 21 = .slice x4 n4 d4 := hS 21 (by decide)
 have e_22 : V 22 = .int .i64 (n4 : Int) := hS 22 (by decide)
 have e_23 : V 23 = .slice (some ⟨g4, n4 * 3, none⟩) 16 (e4 - n4) := hS 23 (by decide)
 have e_24 : V 24 = .agg #[.string ⟨#[]⟩, .slice (some ⟨g1, n1 * 3, none⟩) 16 (e1 - n1), .slice (some ⟨g2, n2 * 5, none⟩) 16 (e2 - n2), .slice (some ⟨g3, n3 * 3, none⟩) 16 (e3 - n3), .slice (some ⟨g4, n4 * 3, none⟩) 16 (e4 - n4)] := hS 24 (by decide)
 simp only [List.drop_succ_cons, List.drop_zero, List.take_succ_cons, List.take_zero, yL, e_0, e_1, e_2, e_3, e_4, e_5, e_6, e_7, e_8, e_9, e_10, e_11, e_12, e_13, e_14, e_15, e_16, e_17, e_18, e_19, e_20, e_21, e_22, e_23, e_24]
 clear hS e_0 e_1 e_2 e_3 e_4 e_5 e_6 e_7 e_8 e_9 e_10 e_11 e_12 e_13 e_14 e_15 e_16 e_17 e_18 e_19 e_20 e_21 e_22 e_23 e_24 V
 simp only [Act.put, qU]
 have RB9 := zZ (RB.out.below q9)
 have B9 := zZ (BA.out.trans (q9.mono BA.out.size))
 clear q9
 go_wp2_with (refine zM _ rfl 31 (.tmp 4) (.tmp 29) rfl rfl (w.heap.size + 2) 31 _ _ rfl rfl RB9.out qZ rfl rfl ?_; intro w8 hN hU; have N8 := zZ hN; have U8 := zZ hU; clear hN hU)
 have t0 : w8.cell? ⟨w.heap.size + 2, 0, none⟩ = some (.string ⟨#[]⟩) := N8.out.cell rfl
 have t1 : w8.cell? ⟨w.heap.size + 2, 1, none⟩ = some (.slice (some ⟨g1, n1 * 3, none⟩) 16 (e1 - n1)) := N8.out.cell rfl
 have t2 : w8.cell? ⟨w.heap.size + 2, 2, none⟩ = some (.slice (some ⟨g2, n2 * 5, none⟩) 16 (e2 - n2)) := N8.out.cell rfl
 have t3 : w8.cell? ⟨w.heap.size + 2, 3, none⟩ = some (.slice (some ⟨g3, n3 * 3, none⟩) 16 (e3 - n3)) := N8.out.cell rfl
 have t4 : w8.cell? ⟨w.heap.size + 2, 4, none⟩ = some (.slice (some ⟨g4, n4 * 3, none⟩) 16 (e4 - n4)) := N8.out.cell rfl
 refine bodyPost_ret (v := .agg #[.string ⟨#[]⟩, .slice (some ⟨g1, n1 * 3, none⟩) 16 (e1 - n1), .slice (some ⟨g2, n2 * 5, none⟩) 16 (e2 - n2), .slice (some ⟨g3, n3 * 3, none⟩) 16 (e3 - n3), .slice (some ⟨g4, n4 * 3, none⟩) 16 (e4 - n4)]) (by simp [results, Try.results33, go_sem, t0, t1, t2, t3, t4]) rfl ?_
 exact ⟨rfl, B9.out.trans (U8.out.below (Nat.le_trans (Nat.le_succ _) (Nat.le_succ _)) B9.out.size)⟩
theorem uI (w : World) {ops : Array Oper} {rest : List Oper} {o : Oper} {a : Act} {Q : Exit -> Act -> World -> Prop} (hgd : o.guard = none) (s x : Operand)
 (ho : o.op = .call { callee := .builtin .append, args := #[s, x], argTypes := #[70, 70] }) (B B2 : Nat) (v u : Value) (n m : Nat) (xs ys : List Value) (hs : a.eval s = v) (hv : w.ownsRow B 41 1 v n xs) (hx : a.eval x = u) (hu : w.ownsRow B2 41 1 u m ys) (h1 : ∀ y ∈ ys, y.oneCell' = true) (hn : n + m <= 4000) (hB : B <= w.heap.size)
 (h : ∀ v' w', w'.ownsRow B 41 1 v' (n + m) (xs ++ ys) -> Below B w w' -> wpList Try.prog ops Q rest (a.put o.dst v') w') : wpList Try.prog ops Q (o :: rest) a w := by
 obtain ⟨i0, hi, hz0, hz1, hz2⟩ := info_parts Try.info41
 have hul := hu.1
 rcases hu.2 with ⟨e1, e0⟩ | ⟨g, cap, cur, e1, -⟩
 ·subst e1
  subst e0
  have ey : ys = [] := List.eq_nil_of_length_eq_zero (by omega)
  subst ey
  refine wpList_append_own_none hgd s x 70 ho B 41 i0 1 Try.underlying70 hi v n xs hs hv hx ?_
  exact h v w (by rw [List.append_nil]; exact hv) (Below.refl _ _)
 subst e1
 refine wpList_append_own w hgd s x 70 ho B 41 i0 (.slice none 0 0) 1 24 Try.underlying70 hi hz0 hz1 hz2 rfl (by decide) v n xs hs hv ⟨g, 0, none⟩ m cap ys hx hul (fun j y hj => World.ownsRow.cells hu rfl j y hj) h1 (by unfold maxLen; omega) (by omega) hB ?_
 intro v' w' hown hg _
 exact h v' w' hown (zH (Below.refl _ _) hg (zT hv) hB)
theorem TH {w wr : World} {B : Nat} {x1 x2 x3 x4 : Option Addr} {n1 n2 n3 n4 d1 d2 d3 d4 t : Nat} (h1 : w.ownsRow B 61 3 (.slice x1 n1 d1) n1 (zD n1 (mA t))) (h2 : w.ownsRow B 64 5 (.slice x2 n2 d2) n2 (zD n2 (mE t))) (h3 : w.ownsRow B 83 3 (.slice x3 n3 d3) n3 (zD n3 (mP t 1))) (h4 : w.ownsRow B 83 3 (.slice x4 n4 d4) n4 (zD n4 (mP t 2)))
 (q1 : ∀ g, (Value.slice x1 n1 d1).ownBlock = some g -> ∀ j, j < (zD n1 (mA t)).length -> wr.cell? ⟨g, j, none⟩ = (zD n1 (mA t))[j]?) (q2 : ∀ g, (Value.slice x2 n2 d2).ownBlock = some g -> ∀ j, j < (zD n2 (mE t)).length -> wr.cell? ⟨g, j, none⟩ = (zD n2 (mE t))[j]?) (q3 : ∀ g, (Value.slice x3 n3 d3).ownBlock = some g -> ∀ j, j < (zD n3 (mP t 1)).length -> wr.cell? ⟨g, j, none⟩ = (zD n3 (mP t 1))[j]?) (q4 : ∀ g, (Value.slice x4 n4 d4).ownBlock = some g -> ∀ j, j < (zD n4 (mP t 2)).length -> wr.cell? ⟨g, j, none⟩ = (zD n4 (mP t 2))[j]?) : UW wr x1 x2 x3 x4 n1 n2 n3 n4 t := by
 have go : ∀ {T s n d : Nat} {x : Option Addr} {m : List Value}, m.length = s -> w.ownsRow B T s (.slice x n d) n (zD n m) -> (∀ g, (Value.slice x n d).ownBlock = some g -> ∀ j, j < (zD n m).length -> wr.cell? ⟨g, j, none⟩ = (zD n m)[j]?) -> ∀ j v, j < s -> m[j]? = some v -> dC wr x n s j v := by
  intro T s n d x m hm h q j v hj hv k hk
  rcases h.2 with ⟨e1, e0⟩ | ⟨g, cap, cur, e1, -⟩
  ·omega
  simp only [Value.slice.injEq] at e1
  obtain ⟨e1, -, -⟩ := e1
  refine ⟨g, 0, e1, ?_⟩
  have hks : (k + 1) * s <= n * s := Nat.mul_le_mul_right s hk
  rw [Nat.succ_mul] at hks
  rw [Nat.zero_add, q g (by rw [e1]; rfl) _ (by rw [xG hm]; omega), dE hm hk hj]
  exact hv
 exact ⟨go (s := 3) rfl h1 q1 1 _ (by decide) rfl, go (s := 5) rfl h2 q2 0 _ (by decide) rfl, go (s := 3) rfl h3 q3 1 _ (by decide) rfl, go (s := 3) rfl h3 q3 2 _ (by decide) rfl, go (s := 3) rfl h4 q4 1 _ (by decide) rfl, go (s := 3) rfl h4 q4 2 _ (by decide) rfl⟩
theorem iW {wr : World} {B T s n e : Nat} {y : Option Addr} {O m : List Value} (hm : m.length = s) (r : wr.ownsRow B T s (.slice y (n + 16) e) (n + 16) (O ++ zD 16 m)) : ∃ g, y = some ⟨g, 0, none⟩ /\ n + 16 <= e /\ g < wr.heap.size /\ ∀ j v, j < s -> m[j]? = some v -> dC wr (some ⟨g, n * s, none⟩) 16 s j v := by
 have hl := r.1
 have hO : O.length = n * s := by rw [List.length_append, xG hm, Nat.add_mul] at hl; omega
 rcases id r.2 with ⟨e1, e0⟩ | ⟨g, cap, cur, e1, hg, hh, hcap⟩
 ·omega
 have e2 := e1
 simp only [Value.slice.injEq] at e1
 obtain ⟨e1, -, e3⟩ := e1
 refine ⟨g, e1, ?_, zR r g (by rw [e1]; rfl), fun j v hj hv k hk => ⟨g, n * s, rfl, ?_⟩⟩
 ·subst e1
  exact dO r (by omega)
 subst e1
 have hks : (k + 1) * s <= 16 * s := Nat.mul_le_mul_right s hk
 rw [Nat.succ_mul] at hks
 have c := r.cellAt (n * s + k * s + j) (by rw [Nat.add_mul]; omega)
 rw [c, List.getElem?_append_right (by omega)]
 have ei : n * s + k * s + j - O.length = k * s + j := by omega
 rw [ei, dE hm hk hj]
 exact hv
def elA (p : GA × Value) : El := (⟨0, [], [], p.1.params, ⟨[], 0, 0⟩, ⟨[], 0, 0⟩, 0⟩, p.2)
def elE (p : GE × Value) : El := (⟨0, [], [], p.1.start, ⟨[], 0, 0⟩, ⟨[], 0, 0⟩, 0⟩, p.2)
def oY (As : List (GA × Value)) (Es : List (GE × Value)) : List El := As.map elA ++ Es.map elE
theorem iV (As : List (GA × Value)) (Es : List (GE × Value)) : (oY As Es).map Prod.snd = As.map Prod.snd ++ Es.map Prod.snd := by
 unfold oY
 rw [List.map_append, List.map_map, List.map_map]
 rfl
theorem dB (As : List (GA × Value)) (Es : List (GE × Value)) : (oY As Es).length = As.length + Es.length := by simp [oY]
theorem nB {B : Nat} {w : World} {v1 v2 v3 v4 : Value} {As : List (GA × Value)} {Es : List (GE × Value)} {Ps Os : List GP} (h : sQ B w v1 v2 v3 v4 As Es Ps Os) : ∀ p ∈ oY As Es, yC B w p.2 p.1.nums := by
 intro p hp
 rcases List.mem_append.1 hp with hp | hp
 ·obtain ⟨q, hq, rfl⟩ := List.mem_map.1 hp
  exact h.n1 q hq
 obtain ⟨q, hq, rfl⟩ := List.mem_map.1 hp
 exact h.n2 q hq
theorem fX {B : Nat} {w : World} {v1 v2 v3 v4 : Value} {As : List (GA × Value)} {Es : List (GE × Value)} {Ps Os : List GP} (h : sQ B w v1 v2 v3 v4 As Es Ps Os) : (oY As Es).Pairwise (fun p q => ∀ k, p.2.ownBlock = some k -> q.2.ownBlock ≠ some k) := by
 have q := h.ap
 rw [<- iV, List.pairwise_map] at q
 exact q
theorem VM {B B2 : Nat} {w : World} {v1 v2 v3 v4 u1 u2 u3 u4 : Value} {As Bs : List (GA × Value)} {Es Fs : List (GE × Value)} {Ps Os Qs Rs : List GP} (h1 : sQ B w v1 v2 v3 v4 As Es Ps Os) (h2 : sQ B2 w u1 u2 u3 u4 Bs Fs Qs Rs) (hb : B <= B2) (hlt : ∀ p ∈ oY As Es, ∀ k, p.2.ownBlock = some k -> k < B2) (hs : ∀ p ∈ oY As Es ++ oY Bs Fs, p.1.nums.length <= 17592186043904) : Rws B w (oY As Es ++ oY Bs Fs) := by
 refine ⟨fun p hp => ?_, ?_, hs⟩
 ·rcases List.mem_append.1 hp with hp | hp
  ·exact nB h1 p hp
  exact (nB h2 p hp).mono hb
 rw [List.pairwise_append]
 exact ⟨fX h1, fX h2, fun p hp q hq k e e2 => by have := hlt p hp k e; have := zT (nB h2 q hq) k e2; omega⟩
theorem jR {B : Nat} {w : World} {v1 v2 v3 v4 : Value} {As : List (GA × Value)} {Es : List (GE × Value)} {Ps Os : List GP} (h : sQ B w v1 v2 v3 v4 As Es Ps Os) : (∀ p ∈ As, ∃ a n c, p.2 = .slice a n c) /\ (∀ p ∈ Es, ∃ a n c, p.2 = .slice a n c) /\ ∀ y ∈ As.map Prod.snd ++ Es.map Prod.snd, y.oneCell' = true := by
 have f1 : ∀ p ∈ As, ∃ a n c, p.2 = .slice a n c := fun p hp => by obtain ⟨a, c, e⟩ := zC (h.n1 p hp); exact ⟨a, _, c, e⟩
 have f2 : ∀ p ∈ Es, ∃ a n c, p.2 = .slice a n c := fun p hp => by obtain ⟨a, c, e⟩ := zC (h.n2 p hp); exact ⟨a, _, c, e⟩
 refine ⟨f1, f2, fun y hy => ?_⟩
 rcases List.mem_append.1 hy with hy | hy
 ·obtain ⟨q, hq, rfl⟩ := List.mem_map.1 hy
  obtain ⟨a, n, c, e⟩ := f1 q hq
  rw [e]; rfl
 obtain ⟨q, hq, rfl⟩ := List.mem_map.1 hy
 obtain ⟨a, n, c, e⟩ := f2 q hq
 rw [e]; rfl
end Go.Proofs.Ytgoconkleicmkaa

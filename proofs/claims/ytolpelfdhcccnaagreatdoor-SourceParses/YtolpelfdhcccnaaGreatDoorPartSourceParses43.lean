/- Texts of one chain, laid one behind the other. -/
import Derived.Test.YtolpelfdhcccnaaGreatDoorPartSourceParses38
import Derived.Test.YtolpelfdhcccnaaGreatDoorPartSourceParses4
import Derived.Deep.Cut
import Derived.Test.YtolpelfdhcccnaaGreatDoorPartSourceParses40
import Derived.Test.YtolpelfdhcccnaaGreatDoorPartSourceParses42
import Derived.Test.YtolpelfdhcccnaaGreatDoorPartSourceParses39
import Derived.Laws.AppendOwnNone
import Derived.Test.YtolpelfdhcccnaaGreatDoorPartSourceParses41
namespace Go.Proofs.YtolpelfdhcccnaaGreatDoor
open Go.ChangeShapes Go.WideShapes Go.ChangeAt Go.RowKit
def dNm (g : GG) : List UInt8 := if (firstF g).code = 0 then g.name else []
def dIt (g : GG) : List Itm := if (firstF g).code = 0 then drawS g else []
theorem drawEnd_one {g : GG} {w w' : World} {e : Ending} (h : DrawEnd g w e w') {n : Nat} (hn : (dIt g).length = n) {nm : List UInt8} (hd : dNm g = nm) {cd : Int} (hc : (firstF g).code = cd) :
    ∃ a c M, e = .returned (.tuple #[.agg #[.string (str nm), .slice a n c], .int .i64 cd]) ∧ M.map Prod.fst = dIt g ∧ M.length = n ∧ Its w.heap.size w' (.slice a n c) M ∧ Below w.heap.size w w' := by
  subst hn hd hc
  unfold DrawEnd at h
  by_cases h0 : (firstF g).code = 0
  · rw [if_pos h0] at h
    obtain ⟨a, c, M, rfl, hm, hi, hb⟩ := h
    have e1 : M.map Prod.fst = dIt g := by rw [hm]; unfold dIt; rw [if_pos h0]
    have e2 : M.length = (dIt g).length := by rw [← e1, List.length_map]
    exact ⟨a, c, M, by rw [h0, ← e2]; unfold dNm; rw [if_pos h0], e1, e2, by rw [← e2]; exact hi, hb⟩
  · rw [if_neg h0] at h
    obtain ⟨rfl, hb⟩ := h
    have e1 : dIt g = [] := by unfold dIt; rw [if_neg h0]
    have e2 : dNm g = [] := by unfold dNm; rw [if_neg h0]
    exact ⟨none, 0, [], by rw [e1, e2]; rfl, by rw [e1]; rfl, by rw [e1]; rfl, by rw [e1]; exact its_nil _ _, hb⟩
theorem dIt_len (g : GG) : (dIt g).length ≤ 160 := by
  unfold dIt
  by_cases h0 : (firstF g).code = 0
  · rw [if_pos h0]
    have := head_ok ((sound_iff g).1 h0).head
    unfold drawS
    simp only [List.length_append, List.length_map]
    omega
  · rw [if_neg h0]; simp
theorem apart_two (B n : Nat) (u : Value) (W0 wr : World) (L : List El) (hL : L.length = n) (hn : n ≤ 1000) (HALL : wr.ownsRow W0.heap.size 60 1 u n (L.map Prod.snd)) (hbw : Below W0.heap.size W0 wr) (RW : Rws B W0 L) (hB : B ≤ W0.heap.size) :
    Calls Tryz.prog 31 #[u] wr fun e w' => e = .returned (.bool true) ∧ Below B W0 w' ∧ ∀ k, k < W0.heap.size → (∀ p ∈ L, p.2.ownBlock ≠ some k) → w'.heap[k]? = W0.heap[k]? := by
  have hs := hbw.size
  have RW2 : Rws B wr L := ⟨fun p hp => (RW.nums p hp).below hbw, RW.pair, RW.short⟩
  rcases HALL.2 with ⟨e1, e0⟩ | ⟨G, cap, cur, e1, hG, hh, -⟩
  · rw [e1]
    exact (apart_nil wr).mono fun _ _ ⟨h1, h2⟩ => ⟨h1, (hbw.mono hB).trans (h2.mono (by omega)), fun k hk _ => (h2.block k (by omega)).trans (hbw.block k hk)⟩
  · have hGl : G < wr.heap.size := (Array.getElem?_eq_some_iff.1 hh).1
    have hT := table_of (G := G) RW2 (fun j hj => by
      have h1 := World.ownsRow.cells HALL (g := G) (by rw [e1]; rfl) j ((L.map Prod.snd)[j]'(by simpa using hj)) (List.getElem?_eq_getElem (by simpa using hj))
      rw [add_zero5] at h1
      rw [h1, nthI_get hj, List.getElem_map]) (fun p hp e => by
      have := own_lt (RW.nums p hp) G e
      omega) hGl (by omega) (by rw [hL]; omega)
    rw [hL] at hT
    rw [e1]
    refine (apart_keeps B G n cap _ _ _ _ wr hT).mono fun _ w' ⟨h1, h2, h3⟩ => ⟨h1, (hbw.mono hB).trans h2, fun k hk hne => (h3 k (by omega) fun j x hj hx e => ?_).trans (hbw.block k hk)⟩
    have hj' : j < L.length := by rw [hL]; exact hj
    exact hne _ (nthI_mem hj') (by rw [(RW.nums _ (nthI_mem hj')).own hx, e])
theorem GrwI.at {B w wr g n cap ys b} (h : GrwI B w wr b (.slice (some ⟨g, 0, none⟩) n cap) ys) (k : Nat) (hk : k < ys.length) : Cell11 wr g (k * 11) (nthI ys k) := h.own.cellsAt k hk
theorem flat_atX {α : Type} (f : α → List Value) (s : Nat) (hf : ∀ x, (f x).length = s) : ∀ (L : List α) (k j : Nat) (hk : k < L.length), j < s → (L.flatMap f)[k * s + j]? = (f (L[k]))[j]?
  | [], k, _, hk, _ => absurd hk (Nat.not_lt_zero _)
  | x :: r, 0, j, _, hj => by
    rw [List.flatMap_cons, Nat.zero_mul, Nat.zero_add, List.getElem?_append_left (by rw [hf]; exact hj)]
    rfl
  | x :: r, k + 1, j, hk, hj => by
    rw [List.flatMap_cons, List.getElem?_append_right (by rw [hf, Nat.succ_mul]; omega)]
    have e : (k + 1) * s + j - (f x).length = k * s + j := by rw [hf, Nat.succ_mul]; omega
    rw [e, flat_atX f s hf r k j (Nat.lt_of_succ_lt_succ hk) hj]
    rfl
theorem snd_take {α : Type} {L : List (α × Value)} {k : Nat} (hk : k < L.length) : (L.map Prod.snd).take (k + 1) = (L.map Prod.snd).take k ++ [(L[k]).2] := by
  rw [List.take_add_one, List.getElem?_map, List.getElem?_eq_getElem hk]
  rfl
theorem one_slice (a : Option Addr) (n c : Nat) : ∀ u ∈ [Value.slice a n c], u.oneCell' = true := by
  intro u hu
  rw [List.mem_singleton.1 hu]
  rfl
/-- Rows of numbers as one row of the call's own. -/
def InnE (w : World) (n : Nat) (VS : List Value) (e : Ending) (w' : World) : Prop := ∃ u, e = .returned u ∧ w'.ownsRow w.heap.size 60 1 u n VS ∧ Below w.heap.size w w'
set_option maxRecDepth 100000 in
set_option maxHeartbeats 8000000 in
theorem inner_any (B : Nat) (nv v3 v4 : Value) (x1 x2 : Option Addr) (d1 d2 : Nat) (As : List (GA × Value)) (Es : List (GE × Value)) (w : World) (h1 : w.ownsRow B 62 3 (.slice x1 As.length d1) As.length (As.flatMap aP)) (h2 : w.ownsRow B 65 5 (.slice x2 Es.length d2) Es.length (Es.flatMap eP)) (hsA : ∀ p ∈ As, ∃ a n c, p.2 = .slice a n c) (hsE : ∀ p ∈ Es, ∃ a n c, p.2 = .slice a n c) (hA : As.length ≤ 1000) (hE : Es.length ≤ 1000) :
    Calls Tryz.prog 30 #[.agg #[nv, .slice x1 As.length d1, .slice x2 Es.length d2, v3, v4]] w (InnE w (As.length + Es.length) (As.map Prod.snd ++ Es.map Prod.snd)) := by
  obtain ⟨RE, hRE⟩ : ∃ R, InnE w (As.length + Es.length) (As.map Prod.snd ++ Es.map Prod.snd) = R := ⟨_, rfl⟩
  rw [hRE]
  have HRE := hiddenG hRE
  have R1 := hiddenG h1
  have R2 := hiddenG h2
  have SA := hiddenG hsA
  have SE := hiddenG hsE
  obtain ⟨i0, hi, hz0, hz1, hz2⟩ := info_parts Tryz.info60
  have HI := hiddenG hi
  have HI0 := hiddenG hz0
  have HI1 := hiddenG hz1
  have HI2 := hiddenG hz2
  obtain ⟨n1, hn1⟩ : ∃ n, As.length = n := ⟨_, rfl⟩
  obtain ⟨n2, hn2⟩ : ∃ n, Es.length = n := ⟨_, rfl⟩
  have L1 := hiddenG hn1
  have L2 := hiddenG hn2
  rw [hn1] at hA
  rw [hn2] at hE
  have X0 := hiddenG (blkA_new 26 w #[nv, .slice x1 As.length d1, .slice x2 Es.length d2, v3, v4])
  have B0 := hiddenG ((Below.refl w.heap.size w).alloc (Nat.le_refl _) (.cells #[nv, .slice x1 As.length d1, .slice x2 Es.length d2, v3, v4] 26))
  rw [hn1, hn2] at X0 B0 ⊢
  clear h1 h2 hsA hsE hRE hi hz0 hz1 hz2 hn1 hn2
  have i1 : (n1 : Int) ≤ 1000 := by omega
  have i2 : (n2 : Int) ≤ 1000 := by omega
  go_enter Tryz.func30, Tryz.ntmps30
  go_upto_region 1 with fail
  generalize w.alloc (.cells #[nv, .slice x1 n1 d1, .slice x2 n2 d2, v3, v4] 26) = W0 at *
  go_wp2
  go_loopg [3, 4] n1 (fun gk u v wr => ∃ k : Nat, k ≤ n1 ∧ gk = n1 - k ∧ v = .int .i64 (k : Int) ∧ wr.ownsRow W0.heap.size 60 1 u k ((As.map Prod.snd).take k) ∧ Below W0.heap.size W0 wr)
  case atStart => exact ⟨0, Nat.zero_le _, rfl, rfl, World.ownsRow_nil _ _ _ _, Below.refl _ _⟩
  case round =>
    obtain ⟨k, hk, rfl, rfl, hro, hbw⟩ := hrel
    obtain ⟨ua, uc, rfl⟩ := own_slice hro
    have HROW := hiddenG hro
    have HBW := hiddenG hbw
    clear hro hbw
    have XB := hiddenG (X0.out.below HBW.out)
    have y1 : wr.cell? ⟨w.heap.size, 1, none⟩ = some (.slice x1 n1 d1) := XB.out.cell rfl
    by_cases hlt : k < n1
    · have hki : (k : Int) < (n1 : Int) := by omega
      have hkl : k < As.length := by rw [L1.out]; exact hlt
      have BWW := hiddenG (B0.out.trans (HBW.out.mono B0.out.size))
      rcases R1.out.2 with ⟨e1, e0⟩ | ⟨g, cap, cur, e1, -⟩
      · rw [e0] at hkl; exact absurd hkl (Nat.not_lt_zero _)
      simp only [Value.slice.injEq] at e1
      obtain ⟨e1, -, -⟩ := e1
      have r1 := R1.out
      rw [e1] at r1
      have cc := r1.cellAt (k * 3 + 2) (by omega)
      rw [flat_atX aP 3 aP_len As k 2 hkl (by decide)] at cc
      obtain ⟨ra, rl, rc, hsl⟩ := SA.out _ (List.getElem_mem hkl)
      have cc2 : w.cell? ⟨g, k * 3 + 2, none⟩ = some (.slice ra rl rc) := by rw [cc, ← hsl]; rfl
      have c9 := cell_keep BWW.out cc2
      have TK := hiddenG (snd_take hkl)
      rw [hsl] at TK
      subst e1
      clear r1 cc cc2 hsl
      have ONE := one_slice ra rl rc
      go_wp2_with (at_builtin; refine wpList_append_own _ rfl (.tmp 13) (.tmp 20) 67 rfl W0.heap.size 60 i0 (.slice none 0 0) 1 24 Tryz.underlying67 HI.out HI0.out HI1.out HI2.out rfl (by decide) _ k _ rfl (owns_below HROW.out ((Below.refl _ _).alloc (Nat.le_refl _) _)) ⟨wr.heap.size, 0, none⟩ 1 1 [.slice ra rl rc] rfl rfl (val_new wr _ _) ONE (by unfold maxLen; omega) (by omega) (by have := HBW.out.size; simp; omega) ?_; intro r8 v8 hown hgrow _; have O8 := hiddenG hown; have B8 : Hid (Below W0.heap.size W0 v8) := below_grownO (HBW.out.trans (((Below.refl _ _).alloc (Nat.le_refl _) _).mono HBW.out.size)) hgrow (own_row HROW.out) (by have := HBW.out.size; simp; omega); clear hown hgrow)
      go_roundg (n1 - (k + 1))
      case measure => omega
      case rel => exact ⟨k + 1, by omega, rfl, by go_num, by rw [TK.out]; exact O8.out, B8.out⟩
    · have ek : n1 = k := by omega
      subst ek
      have hki : ¬ (n1 : Int) < (n1 : Int) := by omega
      have eA : (As.map Prod.snd).take n1 = As.map Prod.snd := List.take_of_length_le (by rw [List.length_map, L1.out]; exact Nat.le_refl _)
      rw [eA] at HROW
      clear eA hlt hk
      go_wp2
      clear y1 XB
      obtain ⟨wa, hwa⟩ : ∃ wa, wr = wa := ⟨_, rfl⟩
      rw [hwa] at HROW HBW ⊢
      clear hwa
      go_loopg [3, 5] n2 (fun gk u v wr => ∃ k : Nat, k ≤ n2 ∧ gk = n2 - k ∧ v = .int .i64 (k : Int) ∧ wr.ownsRow W0.heap.size 60 1 u (n1 + k) (As.map Prod.snd ++ (Es.map Prod.snd).take k) ∧ Below W0.heap.size W0 wr)
      case atStart => exact ⟨0, Nat.zero_le _, rfl, rfl, by rw [List.take_zero, List.append_nil]; exact HROW.out, HBW.out⟩
      case round =>
        clear HROW HBW
        obtain ⟨k, hk, rfl, rfl, hro, hbw⟩ := hrel
        obtain ⟨ua, uc, rfl⟩ := own_slice hro
        have HROW := hiddenG hro
        have HBW := hiddenG hbw
        clear hro hbw
        have XB := hiddenG (X0.out.below HBW.out)
        have y2 : wr.cell? ⟨w.heap.size, 2, none⟩ = some (.slice x2 n2 d2) := XB.out.cell rfl
        by_cases hlt : k < n2
        · have hkj : (k : Int) < (n2 : Int) := by omega
          have hkl : k < Es.length := by rw [L2.out]; exact hlt
          have BWW := hiddenG (B0.out.trans (HBW.out.mono B0.out.size))
          rcases R2.out.2 with ⟨e1, e0⟩ | ⟨g, cap, cur, e1, -⟩
          · rw [e0] at hkl; exact absurd hkl (Nat.not_lt_zero _)
          simp only [Value.slice.injEq] at e1
          obtain ⟨e1, -, -⟩ := e1
          have r1 := R2.out
          rw [e1] at r1
          have cc := r1.cellAt (k * 5 + 4) (by omega)
          rw [flat_atX eP 5 eP_len Es k 4 hkl (by decide)] at cc
          obtain ⟨ra, rl, rc, hsl⟩ := SE.out _ (List.getElem_mem hkl)
          have cc2 : w.cell? ⟨g, k * 5 + 4, none⟩ = some (.slice ra rl rc) := by rw [cc, ← hsl]; rfl
          have c9 := cell_keep BWW.out cc2
          have TK := hiddenG (snd_take hkl)
          rw [hsl] at TK
          subst e1
          clear r1 cc cc2 hsl
          have ONE := one_slice ra rl rc
          go_wp2_with (at_builtin; refine wpList_append_own _ rfl (.tmp 29) (.tmp 36) 67 rfl W0.heap.size 60 i0 (.slice none 0 0) 1 24 Tryz.underlying67 HI.out HI0.out HI1.out HI2.out rfl (by decide) _ (n1 + k) _ rfl (owns_below HROW.out ((Below.refl _ _).alloc (Nat.le_refl _) _)) ⟨wr.heap.size, 0, none⟩ 1 1 [.slice ra rl rc] rfl rfl (val_new wr _ _) ONE (by unfold maxLen; omega) (by omega) (by have := HBW.out.size; simp; omega) ?_; intro r8 v8 hown hgrow _; have O8 := hiddenG hown; have B8 : Hid (Below W0.heap.size W0 v8) := below_grownO (HBW.out.trans (((Below.refl _ _).alloc (Nat.le_refl _) _).mono HBW.out.size)) hgrow (own_row HROW.out) (by have := HBW.out.size; simp; omega); clear hown hgrow)
          go_roundg (n2 - (k + 1))
          case measure => omega
          case rel => exact ⟨k + 1, by omega, rfl, by go_num, by rw [TK.out, ← List.append_assoc]; exact O8.out, B8.out⟩
        · have ek : n2 = k := by omega
          subst ek
          have hkj : ¬ (n2 : Int) < (n2 : Int) := by omega
          have eE : (Es.map Prod.snd).take n2 = Es.map Prod.snd := List.take_of_length_le (by rw [List.length_map, L2.out]; exact Nat.le_refl _)
          rw [eE] at HROW
          clear eE
          go_wp2
          rw [← HRE.out]
          exact ⟨_, rfl, by rw [L1.out, L2.out]; exact owns_mono HROW.out B0.out.size, B0.out.trans (HBW.out.mono B0.out.size)⟩
def mA (t : Nat) : List Value := [.string ⟨#[]⟩, .int .u8 (t : Int), .slice none 0 0]
def mE (t : Nat) : List Value := [.int .i64 (t : Int), .int .i64 0, .int .i64 0, .int .i64 0, .slice none 0 0]
def mP (t q : Nat) : List Value := [.string ⟨#[]⟩, .int .i64 (t : Int), .int .i64 (q : Int)]
def repX (k : Nat) (m : List Value) : List Value := (List.replicate k m).flatten
theorem repX_len {m : List Value} {s : Nat} (hm : m.length = s) : ∀ k, (repX k m).length = k * s
  | 0 => by simp [repX]
  | k + 1 => by unfold repX; rw [List.replicate_succ, List.flatten_cons, List.length_append, hm, Nat.succ_mul]; have := repX_len hm k; unfold repX at this; omega
theorem repX_succ (k : Nat) (m : List Value) : repX (k + 1) m = repX k m ++ m := by
  unfold repX
  rw [List.replicate_succ', List.flatten_append]
  simp
theorem repX_at {m : List Value} {s : Nat} (hm : m.length = s) {n k j : Nat} (hk : k < n) (hj : j < s) : (repX n m)[k * s + j]? = m[j]? := by
  induction n with
  | zero => omega
  | succ n ih =>
    rw [repX_succ]
    by_cases e : k < n
    · rw [List.getElem?_append_left (by rw [repX_len hm]; have := Nat.mul_le_mul_right s (show k + 1 ≤ n from e); rw [Nat.succ_mul] at this; omega)]
      exact ih e
    · have ek : k = n := by omega
      subst ek
      rw [List.getElem?_append_right (by rw [repX_len hm]; omega), repX_len hm]
      congr 1
      omega
theorem set_app {l : List Value} {a b : Value} {r : List Value} {k : Nat} (h : l.length = k) : (l ++ a :: r).set k b = (l ++ [b]) ++ r := by
  subst h
  rw [List.set_append_right _ _ (Nat.le_refl _), Nat.sub_self, List.set_cons_zero, List.append_assoc]
  rfl
theorem set3X {l r : List Value} {k : Nat} (h : l.length = k) (hr : 3 ≤ r.length) (a b c : Value) : (((l ++ r).set k a).set (k + 1) b).set (k + 2) c = l ++ [a, b, c] ++ r.drop 3 := by
  match r, hr with
  | x :: y :: z :: r, _ =>
    rw [set_app h, set_app (by simp [h]), set_app (by simp [h])]
    simp
theorem set5X {l r : List Value} {k : Nat} (h : l.length = k) (hr : 5 ≤ r.length) (a b c d e : Value) : (((((l ++ r).set k a).set (k + 1) b).set (k + 2) c).set (k + 3) d).set (k + 4) e = l ++ [a, b, c, d, e] ++ r.drop 5 := by
  match r, hr with
  | x :: y :: z :: u :: v :: r, _ =>
    rw [set_app h, set_app (by simp [h]), set_app (by simp [h]), set_app (by simp [h]), set_app (by simp [h])]
    simp
/-- A graph's own lists while marks are written into them. -/
structure WrS (w : World) (B : Nat) (gv : Array Value) (v1 v2 v3 v4 : Value) (n1 n2 n3 n4 : Nat) (X1 X2 X3 X4 : List Value) (wr : World) : Prop where
  gb : BlkA 26 w.heap.size wr gv
  r1 : wr.ownsRow B 62 3 v1 n1 X1
  r2 : wr.ownsRow B 65 5 v2 n2 X2
  r3 : wr.ownsRow B 81 3 v3 n3 X3
  r4 : wr.ownsRow B 81 3 v4 n4 X4
  n34 : NB v3 v4
  fr : ∀ k, k < w.heap.size → v1.ownBlock ≠ some k → v2.ownBlock ≠ some k → v3.ownBlock ≠ some k → v4.ownBlock ≠ some k → wr.heap[k]? = w.heap[k]?
  bel : Below B w wr
  lo : ∀ k, (v1.ownBlock = some k ∨ v2.ownBlock = some k ∨ v3.ownBlock = some k ∨ v4.ownBlock = some k) → k < w.heap.size
  hB : B ≤ w.heap.size
theorem WrS.put1 {w B gv v1 v2 v3 v4 n1 n2 n3 n4 X1 X2 X3 X4} {wr wr' : World} (h : WrS w B gv v1 v2 v3 v4 n1 n2 n3 n4 X1 X2 X3 X4 wr) {g : Nat} (hv : v1.ownBlock = some g) {X' : List Value} (ho : wr'.ownsRow B 62 3 v1 n1 X') (hg : wr.grownBy wr' (some g)) : WrS w B gv v1 v2 v3 v4 n1 n2 n3 n4 X' X2 X3 X4 wr' := by
  have hgl := h.lo g (.inl hv)
  have hs := h.bel.size
  have hBg := own_row h.r1 g hv
  refine ⟨h.gb.keep (hg.block _ h.gb.lt (fun q => by cases q; omega)), ho, (ownR_keep h.r2 fun k e => hg.block k (own_lt h.r2 k e) (fun q => (own_types h.r1 h.r2 (by decide)) k (by rw [hv]; exact q.symm) e)), (ownR_keep h.r3 fun k e => hg.block k (own_lt h.r3 k e) (fun q => (own_types h.r1 h.r3 (by decide)) k (by rw [hv]; exact q.symm) e)), (ownR_keep h.r4 fun k e => hg.block k (own_lt h.r4 k e) (fun q => (own_types h.r1 h.r4 (by decide)) k (by rw [hv]; exact q.symm) e)), h.n34, fun k hk q1 q2 q3 q4 => (hg.block k (by omega) (fun q => q1 (by rw [hv]; exact q.symm))).trans (h.fr k hk q1 q2 q3 q4), below_grownO h.bel hg (fun k hk => by cases hk; exact hBg) (Nat.le_trans h.hB hs), h.lo, h.hB⟩
theorem WrS.put2 {w B gv v1 v2 v3 v4 n1 n2 n3 n4 X1 X2 X3 X4} {wr wr' : World} (h : WrS w B gv v1 v2 v3 v4 n1 n2 n3 n4 X1 X2 X3 X4 wr) {g : Nat} (hv : v2.ownBlock = some g) {X' : List Value} (ho : wr'.ownsRow B 65 5 v2 n2 X') (hg : wr.grownBy wr' (some g)) : WrS w B gv v1 v2 v3 v4 n1 n2 n3 n4 X1 X' X3 X4 wr' := by
  have hgl := h.lo g (.inr (.inl hv))
  have hs := h.bel.size
  have hBg := own_row h.r2 g hv
  refine ⟨h.gb.keep (hg.block _ h.gb.lt (fun q => by cases q; omega)), (ownR_keep h.r1 fun k e => hg.block k (own_lt h.r1 k e) (fun q => (own_types h.r2 h.r1 (by decide)) k (by rw [hv]; exact q.symm) e)), ho, (ownR_keep h.r3 fun k e => hg.block k (own_lt h.r3 k e) (fun q => (own_types h.r2 h.r3 (by decide)) k (by rw [hv]; exact q.symm) e)), (ownR_keep h.r4 fun k e => hg.block k (own_lt h.r4 k e) (fun q => (own_types h.r2 h.r4 (by decide)) k (by rw [hv]; exact q.symm) e)), h.n34, fun k hk q1 q2 q3 q4 => (hg.block k (by omega) (fun q => q2 (by rw [hv]; exact q.symm))).trans (h.fr k hk q1 q2 q3 q4), below_grownO h.bel hg (fun k hk => by cases hk; exact hBg) (Nat.le_trans h.hB hs), h.lo, h.hB⟩
theorem WrS.put3 {w B gv v1 v2 v3 v4 n1 n2 n3 n4 X1 X2 X3 X4} {wr wr' : World} (h : WrS w B gv v1 v2 v3 v4 n1 n2 n3 n4 X1 X2 X3 X4 wr) {g : Nat} (hv : v3.ownBlock = some g) {X' : List Value} (ho : wr'.ownsRow B 81 3 v3 n3 X') (hg : wr.grownBy wr' (some g)) : WrS w B gv v1 v2 v3 v4 n1 n2 n3 n4 X1 X2 X' X4 wr' := by
  have hgl := h.lo g (.inr (.inr (.inl hv)))
  have hs := h.bel.size
  have hBg := own_row h.r3 g hv
  refine ⟨h.gb.keep (hg.block _ h.gb.lt (fun q => by cases q; omega)), (ownR_keep h.r1 fun k e => hg.block k (own_lt h.r1 k e) (fun q => (own_types h.r3 h.r1 (by decide)) k (by rw [hv]; exact q.symm) e)), (ownR_keep h.r2 fun k e => hg.block k (own_lt h.r2 k e) (fun q => (own_types h.r3 h.r2 (by decide)) k (by rw [hv]; exact q.symm) e)), ho, (ownR_keep h.r4 fun k e => hg.block k (own_lt h.r4 k e) (fun q => h.n34 k (by rw [hv]; exact q.symm) e)), h.n34, fun k hk q1 q2 q3 q4 => (hg.block k (by omega) (fun q => q3 (by rw [hv]; exact q.symm))).trans (h.fr k hk q1 q2 q3 q4), below_grownO h.bel hg (fun k hk => by cases hk; exact hBg) (Nat.le_trans h.hB hs), h.lo, h.hB⟩
theorem WrS.put4 {w B gv v1 v2 v3 v4 n1 n2 n3 n4 X1 X2 X3 X4} {wr wr' : World} (h : WrS w B gv v1 v2 v3 v4 n1 n2 n3 n4 X1 X2 X3 X4 wr) {g : Nat} (hv : v4.ownBlock = some g) {X' : List Value} (ho : wr'.ownsRow B 81 3 v4 n4 X') (hg : wr.grownBy wr' (some g)) : WrS w B gv v1 v2 v3 v4 n1 n2 n3 n4 X1 X2 X3 X' wr' := by
  have hgl := h.lo g (.inr (.inr (.inr hv)))
  have hs := h.bel.size
  have hBg := own_row h.r4 g hv
  refine ⟨h.gb.keep (hg.block _ h.gb.lt (fun q => by cases q; omega)), (ownR_keep h.r1 fun k e => hg.block k (own_lt h.r1 k e) (fun q => (own_types h.r4 h.r1 (by decide)) k (by rw [hv]; exact q.symm) e)), (ownR_keep h.r2 fun k e => hg.block k (own_lt h.r2 k e) (fun q => (own_types h.r4 h.r2 (by decide)) k (by rw [hv]; exact q.symm) e)), (ownR_keep h.r3 fun k e => hg.block k (own_lt h.r3 k e) (fun q => h.n34.symm k (by rw [hv]; exact q.symm) e)), ho, h.n34, fun k hk q1 q2 q3 q4 => (hg.block k (by omega) (fun q => q4 (by rw [hv]; exact q.symm))).trans (h.fr k hk q1 q2 q3 q4), below_grownO h.bel hg (fun k hk => by cases hk; exact hBg) (Nat.le_trans h.hB hs), h.lo, h.hB⟩
/-- How writeGraph ends. -/
def WrE (w : World) (B : Nat) (gv : Array Value) (v1 v2 v3 v4 : Value) (n1 n2 n3 n4 t : Nat) (e : Ending) (w' : World) : Prop := e = .returned (.tuple #[]) ∧ WrS w B gv v1 v2 v3 v4 n1 n2 n3 n4 (repX n1 (mA t)) (repX n2 (mE t)) (repX n3 (mP t 1)) (repX n4 (mP t 2)) w'
set_option maxRecDepth 100000 in
set_option maxHeartbeats 16000000 in
theorem write_any (B : Nat) (nv : Value) (x1 x2 x3 x4 : Option Addr) (n1 n2 n3 n4 d1 d2 d3 d4 t : Nat) (X1 X2 X3 X4 : List Value) (w : World) (h1 : w.ownsRow B 62 3 (.slice x1 n1 d1) n1 X1) (h2 : w.ownsRow B 65 5 (.slice x2 n2 d2) n2 X2) (h3 : w.ownsRow B 81 3 (.slice x3 n3 d3) n3 X3) (h4 : w.ownsRow B 81 3 (.slice x4 n4 d4) n4 X4) (hn : NB (.slice x3 n3 d3) (.slice x4 n4 d4)) (hB : B ≤ w.heap.size) (ht : t ≤ 255) (l1 : n1 ≤ 1000) (l2 : n2 ≤ 1000) (l3 : n3 ≤ 1000) (l4 : n4 ≤ 1000) :
    Calls Tryz.prog 32 #[.agg #[nv, .slice x1 n1 d1, .slice x2 n2 d2, .slice x3 n3 d3, .slice x4 n4 d4], .int .i64 (t : Int)] w (WrE w B #[nv, .slice x1 n1 d1, .slice x2 n2 d2, .slice x3 n3 d3, .slice x4 n4 d4] (.slice x1 n1 d1) (.slice x2 n2 d2) (.slice x3 n3 d3) (.slice x4 n4 d4) n1 n2 n3 n4 t) := by
  obtain ⟨RE, hRE⟩ : ∃ R, WrE w B #[nv, .slice x1 n1 d1, .slice x2 n2 d2, .slice x3 n3 d3, .slice x4 n4 d4] (.slice x1 n1 d1) (.slice x2 n2 d2) (.slice x3 n3 d3) (.slice x4 n4 d4) n1 n2 n3 n4 t = R := ⟨_, rfl⟩
  rw [hRE]
  have HRE := hiddenG hRE
  have D0 : Hid (WrS w B #[nv, .slice x1 n1 d1, .slice x2 n2 d2, .slice x3 n3 d3, .slice x4 n4 d4] (.slice x1 n1 d1) (.slice x2 n2 d2) (.slice x3 n3 d3) (.slice x4 n4 d4) n1 n2 n3 n4 X1 X2 X3 X4 (w.alloc (.cells #[nv, .slice x1 n1 d1, .slice x2 n2 d2, .slice x3 n3 d3, .slice x4 n4 d4] 26))) := by
    have ba := (Below.refl w.heap.size w).alloc (Nat.le_refl _) (.cells #[nv, .slice x1 n1 d1, .slice x2 n2 d2, .slice x3 n3 d3, .slice x4 n4 d4] 26)
    exact ⟨blkA_new 26 w _, owns_below h1 ba, owns_below h2 ba, owns_below h3 ba, owns_below h4 ba, hn, fun k hk _ _ _ _ => ba.block k hk, ba.mono hB, fun k q => by
      rcases q with q | q | q | q
      · exact own_lt h1 k q
      · exact own_lt h2 k q
      · exact own_lt h3 k q
      · exact own_lt h4 k q, hB⟩
  have hcv : IntKind.u8.wrap (t : Int) = (t : Int) := by
    rw [IntKind.wrap_u8]
    omega
  have i1 : (n1 : Int) ≤ 1000 := by omega
  have i2 : (n2 : Int) ≤ 1000 := by omega
  have i3 : (n3 : Int) ≤ 1000 := by omega
  have i4 : (n4 : Int) ≤ 1000 := by omega
  clear h1 h2 h3 h4 hn hRE hB
  go_enter Tryz.func32, Tryz.ntmps32
  go_upto_region 1 with fail
  generalize w.alloc (.cells #[nv, .slice x1 n1 d1, .slice x2 n2 d2, .slice x3 n3 d3, .slice x4 n4 d4] 26) = W0 at *
  go_wp2
  go_loopg [4] n1 (fun gk v wr => ∃ k : Nat, k ≤ n1 ∧ gk = n1 - k ∧ v = .int .i64 (k : Int) ∧ WrS w B #[nv, .slice x1 n1 d1, .slice x2 n2 d2, .slice x3 n3 d3, .slice x4 n4 d4] (.slice x1 n1 d1) (.slice x2 n2 d2) (.slice x3 n3 d3) (.slice x4 n4 d4) n1 n2 n3 n4 (repX k (mA t) ++ X1.drop (k * 3)) X2 X3 X4 wr)
  case atStart => exact ⟨0, Nat.zero_le _, rfl, rfl, by rw [Nat.zero_mul, List.drop_zero]; exact D0.out⟩
  case round =>
    clear D0
    obtain ⟨k, hk, rfl, rfl, hD⟩ := hrel
    have DD := hiddenG hD
    clear hD
    have y1 : wr.cell? ⟨w.heap.size, 1, none⟩ = some (.slice x1 n1 d1) := DD.out.gb.cell rfl
    by_cases hlt : k < n1
    · have hki : (k : Int) < (n1 : Int) := by omega
      have hlen := DD.out.r1.1
      have hrl : (repX k (mA t)).length = k * 3 := repX_len rfl k
      rcases DD.out.r1.2 with ⟨e1, e0⟩ | ⟨g, cap, cur, e1, -⟩
      · omega
      simp only [Value.slice.injEq] at e1
      obtain ⟨e1, -, -⟩ := e1
      have rI := DD.out.r1
      rw [e1] at rI
      have z0 : ∃ u, wr.cell? ⟨g, k * 3, none⟩ = some u := by
        rw [rI.cellAt (k * 3) (by omega), List.getElem?_eq_getElem (by rw [hlen]; omega)]
        exact ⟨_, rfl⟩
      have z1 : ∃ u, wr.cell? ⟨g, k * 3 + 1, none⟩ = some u := by
        rw [rI.cellAt (k * 3 + 1) (by omega), List.getElem?_eq_getElem (by rw [hlen]; omega)]
        exact ⟨_, rfl⟩
      have z2 : ∃ u, wr.cell? ⟨g, k * 3 + 2, none⟩ = some u := by
        rw [rI.cellAt (k * 3 + 2) (by omega), List.getElem?_eq_getElem (by rw [hlen]; omega)]
        exact ⟨_, rfl⟩
      obtain ⟨u0, z0⟩ := z0
      obtain ⟨u1, z1⟩ := z1
      obtain ⟨u2, z2⟩ := z2
      have f0 := rI.frozenAt (k * 3)
      have f1 := rI.frozenAt (k * 3 + 1)
      have f2 := rI.frozenAt (k * 3 + 2)
      have NX : Hid (WrS w B #[nv, .slice x1 n1 d1, .slice x2 n2 d2, .slice x3 n3 d3, .slice x4 n4 d4] (.slice x1 n1 d1) (.slice x2 n2 d2) (.slice x3 n3 d3) (.slice x4 n4 d4) n1 n2 n3 n4 (repX (k + 1) (mA t) ++ X1.drop ((k + 1) * 3)) X2 X3 X4 ((((wr.setCell ⟨g, k * 3, none⟩ (.string ⟨#[]⟩)).setCell ⟨g, k * 3 + 1, none⟩ (.int .u8 (t : Int))).setCell ⟨g, k * 3 + 2, none⟩ (.slice none 0 0)))) := by
        obtain ⟨o1, g1⟩ := World.ownsRow.stored rI (k * 3) (.string ⟨#[]⟩)
        obtain ⟨o2, g2⟩ := World.ownsRow.stored o1 (k * 3 + 1) (.int .u8 (t : Int))
        obtain ⟨o3, g3⟩ := World.ownsRow.stored o2 (k * 3 + 2) (.slice none 0 0)
        rw [set3X hrl (by rw [List.length_append, hrl] at hlen; have := Nat.mul_le_mul_right 3 (show k + 1 ≤ n1 from hlt); rw [Nat.succ_mul] at this; omega)] at o3
        have ex : repX k (mA t) ++ [.string ⟨#[]⟩, .int .u8 (t : Int), .slice none 0 0] ++ (X1.drop (k * 3)).drop 3 = repX (k + 1) (mA t) ++ X1.drop ((k + 1) * 3) := by rw [repX_succ, List.drop_drop, Nat.succ_mul]; rfl
        rw [ex] at o3
        rw [← e1] at o3
        exact DD.out.put1 (by rw [e1]; rfl) o3 (Lib.grownBy_trans (Lib.grownBy_trans (g1) g2) g3)
      subst e1
      clear rI hlen hrl
      go_wp2
      go_roundg (n1 - (k + 1))
      case measure => omega
      case rel => exact ⟨k + 1, by omega, rfl, by go_num, NX.out⟩
    · have ek : n1 = k := by omega
      have hki : ¬ (k : Int) < (n1 : Int) := by omega
      have D1 : Hid (WrS w B #[nv, .slice x1 n1 d1, .slice x2 n2 d2, .slice x3 n3 d3, .slice x4 n4 d4] (.slice x1 n1 d1) (.slice x2 n2 d2) (.slice x3 n3 d3) (.slice x4 n4 d4) n1 n2 n3 n4 (repX n1 (mA t)) X2 X3 X4 wr) := by
        have q := DD.out
        have hl := q.r1.1
        rw [List.length_append, repX_len (m := (mA t)) (s := 3) rfl, ← ek] at hl
        have e0 : X1.drop (n1 * 3) = [] := List.eq_nil_of_length_eq_zero (by omega)
        rw [← ek, e0, List.append_nil] at q
        exact q
      clear DD ek
      go_wp2
      clear y1
      go_loopg [5] n2 (fun gk v wr => ∃ k : Nat, k ≤ n2 ∧ gk = n2 - k ∧ v = .int .i64 (k : Int) ∧ WrS w B #[nv, .slice x1 n1 d1, .slice x2 n2 d2, .slice x3 n3 d3, .slice x4 n4 d4] (.slice x1 n1 d1) (.slice x2 n2 d2) (.slice x3 n3 d3) (.slice x4 n4 d4) n1 n2 n3 n4 (repX n1 (mA t)) (repX k (mE t) ++ X2.drop (k * 5)) X3 X4 wr)
      case atStart => exact ⟨0, Nat.zero_le _, rfl, rfl, by rw [Nat.zero_mul, List.drop_zero]; exact D1.out⟩
      case round =>
        clear D1
        obtain ⟨k, hk, rfl, rfl, hD⟩ := hrel
        have DD := hiddenG hD
        clear hD
        have y2 : wr.cell? ⟨w.heap.size, 2, none⟩ = some (.slice x2 n2 d2) := DD.out.gb.cell rfl
        by_cases hlt : k < n2
        · have hki : (k : Int) < (n2 : Int) := by omega
          have hlen := DD.out.r2.1
          have hrl : (repX k (mE t)).length = k * 5 := repX_len rfl k
          rcases DD.out.r2.2 with ⟨e1, e0⟩ | ⟨g, cap, cur, e1, -⟩
          · omega
          simp only [Value.slice.injEq] at e1
          obtain ⟨e1, -, -⟩ := e1
          have rI := DD.out.r2
          rw [e1] at rI
          have z0 : ∃ u, wr.cell? ⟨g, k * 5, none⟩ = some u := by
            rw [rI.cellAt (k * 5) (by omega), List.getElem?_eq_getElem (by rw [hlen]; omega)]
            exact ⟨_, rfl⟩
          have z1 : ∃ u, wr.cell? ⟨g, k * 5 + 1, none⟩ = some u := by
            rw [rI.cellAt (k * 5 + 1) (by omega), List.getElem?_eq_getElem (by rw [hlen]; omega)]
            exact ⟨_, rfl⟩
          have z2 : ∃ u, wr.cell? ⟨g, k * 5 + 2, none⟩ = some u := by
            rw [rI.cellAt (k * 5 + 2) (by omega), List.getElem?_eq_getElem (by rw [hlen]; omega)]
            exact ⟨_, rfl⟩
          have z3 : ∃ u, wr.cell? ⟨g, k * 5 + 3, none⟩ = some u := by
            rw [rI.cellAt (k * 5 + 3) (by omega), List.getElem?_eq_getElem (by rw [hlen]; omega)]
            exact ⟨_, rfl⟩
          have z4 : ∃ u, wr.cell? ⟨g, k * 5 + 4, none⟩ = some u := by
            rw [rI.cellAt (k * 5 + 4) (by omega), List.getElem?_eq_getElem (by rw [hlen]; omega)]
            exact ⟨_, rfl⟩
          obtain ⟨u0, z0⟩ := z0
          obtain ⟨u1, z1⟩ := z1
          obtain ⟨u2, z2⟩ := z2
          obtain ⟨u3, z3⟩ := z3
          obtain ⟨u4, z4⟩ := z4
          have f0 := rI.frozenAt (k * 5)
          have f1 := rI.frozenAt (k * 5 + 1)
          have f2 := rI.frozenAt (k * 5 + 2)
          have f3 := rI.frozenAt (k * 5 + 3)
          have f4 := rI.frozenAt (k * 5 + 4)
          have NX : Hid (WrS w B #[nv, .slice x1 n1 d1, .slice x2 n2 d2, .slice x3 n3 d3, .slice x4 n4 d4] (.slice x1 n1 d1) (.slice x2 n2 d2) (.slice x3 n3 d3) (.slice x4 n4 d4) n1 n2 n3 n4 (repX n1 (mA t)) (repX (k + 1) (mE t) ++ X2.drop ((k + 1) * 5)) X3 X4 ((((((wr.setCell ⟨g, k * 5, none⟩ (.int .i64 (t : Int))).setCell ⟨g, k * 5 + 1, none⟩ (.int .i64 0)).setCell ⟨g, k * 5 + 2, none⟩ (.int .i64 0)).setCell ⟨g, k * 5 + 3, none⟩ (.int .i64 0)).setCell ⟨g, k * 5 + 4, none⟩ (.slice none 0 0)))) := by
            obtain ⟨o1, g1⟩ := World.ownsRow.stored rI (k * 5) (.int .i64 (t : Int))
            obtain ⟨o2, g2⟩ := World.ownsRow.stored o1 (k * 5 + 1) (.int .i64 0)
            obtain ⟨o3, g3⟩ := World.ownsRow.stored o2 (k * 5 + 2) (.int .i64 0)
            obtain ⟨o4, g4⟩ := World.ownsRow.stored o3 (k * 5 + 3) (.int .i64 0)
            obtain ⟨o5, g5⟩ := World.ownsRow.stored o4 (k * 5 + 4) (.slice none 0 0)
            rw [set5X hrl (by rw [List.length_append, hrl] at hlen; have := Nat.mul_le_mul_right 5 (show k + 1 ≤ n2 from hlt); rw [Nat.succ_mul] at this; omega)] at o5
            have ex : repX k (mE t) ++ [.int .i64 (t : Int), .int .i64 0, .int .i64 0, .int .i64 0, .slice none 0 0] ++ (X2.drop (k * 5)).drop 5 = repX (k + 1) (mE t) ++ X2.drop ((k + 1) * 5) := by rw [repX_succ, List.drop_drop, Nat.succ_mul]; rfl
            rw [ex] at o5
            rw [← e1] at o5
            exact DD.out.put2 (by rw [e1]; rfl) o5 (Lib.grownBy_trans (Lib.grownBy_trans (Lib.grownBy_trans (Lib.grownBy_trans (g1) g2) g3) g4) g5)
          subst e1
          clear rI hlen hrl
          go_wp2
          go_roundg (n2 - (k + 1))
          case measure => omega
          case rel => exact ⟨k + 1, by omega, rfl, by go_num, NX.out⟩
        · have ek : n2 = k := by omega
          have hki : ¬ (k : Int) < (n2 : Int) := by omega
          have D2 : Hid (WrS w B #[nv, .slice x1 n1 d1, .slice x2 n2 d2, .slice x3 n3 d3, .slice x4 n4 d4] (.slice x1 n1 d1) (.slice x2 n2 d2) (.slice x3 n3 d3) (.slice x4 n4 d4) n1 n2 n3 n4 (repX n1 (mA t)) (repX n2 (mE t)) X3 X4 wr) := by
            have q := DD.out
            have hl := q.r2.1
            rw [List.length_append, repX_len (m := (mE t)) (s := 5) rfl, ← ek] at hl
            have e0 : X2.drop (n2 * 5) = [] := List.eq_nil_of_length_eq_zero (by omega)
            rw [← ek, e0, List.append_nil] at q
            exact q
          clear DD ek
          go_wp2
          clear y2
          go_loopg [6] n3 (fun gk v wr => ∃ k : Nat, k ≤ n3 ∧ gk = n3 - k ∧ v = .int .i64 (k : Int) ∧ WrS w B #[nv, .slice x1 n1 d1, .slice x2 n2 d2, .slice x3 n3 d3, .slice x4 n4 d4] (.slice x1 n1 d1) (.slice x2 n2 d2) (.slice x3 n3 d3) (.slice x4 n4 d4) n1 n2 n3 n4 (repX n1 (mA t)) (repX n2 (mE t)) (repX k (mP t 1) ++ X3.drop (k * 3)) X4 wr)
          case atStart => exact ⟨0, Nat.zero_le _, rfl, rfl, by rw [Nat.zero_mul, List.drop_zero]; exact D2.out⟩
          case round =>
            clear D2
            obtain ⟨k, hk, rfl, rfl, hD⟩ := hrel
            have DD := hiddenG hD
            clear hD
            have y3 : wr.cell? ⟨w.heap.size, 3, none⟩ = some (.slice x3 n3 d3) := DD.out.gb.cell rfl
            by_cases hlt : k < n3
            · have hki : (k : Int) < (n3 : Int) := by omega
              have hlen := DD.out.r3.1
              have hrl : (repX k (mP t 1)).length = k * 3 := repX_len rfl k
              rcases DD.out.r3.2 with ⟨e1, e0⟩ | ⟨g, cap, cur, e1, -⟩
              · omega
              simp only [Value.slice.injEq] at e1
              obtain ⟨e1, -, -⟩ := e1
              have rI := DD.out.r3
              rw [e1] at rI
              have z0 : ∃ u, wr.cell? ⟨g, k * 3, none⟩ = some u := by
                rw [rI.cellAt (k * 3) (by omega), List.getElem?_eq_getElem (by rw [hlen]; omega)]
                exact ⟨_, rfl⟩
              have z1 : ∃ u, wr.cell? ⟨g, k * 3 + 1, none⟩ = some u := by
                rw [rI.cellAt (k * 3 + 1) (by omega), List.getElem?_eq_getElem (by rw [hlen]; omega)]
                exact ⟨_, rfl⟩
              have z2 : ∃ u, wr.cell? ⟨g, k * 3 + 2, none⟩ = some u := by
                rw [rI.cellAt (k * 3 + 2) (by omega), List.getElem?_eq_getElem (by rw [hlen]; omega)]
                exact ⟨_, rfl⟩
              obtain ⟨u0, z0⟩ := z0
              obtain ⟨u1, z1⟩ := z1
              obtain ⟨u2, z2⟩ := z2
              have f0 := rI.frozenAt (k * 3)
              have f1 := rI.frozenAt (k * 3 + 1)
              have f2 := rI.frozenAt (k * 3 + 2)
              have NX : Hid (WrS w B #[nv, .slice x1 n1 d1, .slice x2 n2 d2, .slice x3 n3 d3, .slice x4 n4 d4] (.slice x1 n1 d1) (.slice x2 n2 d2) (.slice x3 n3 d3) (.slice x4 n4 d4) n1 n2 n3 n4 (repX n1 (mA t)) (repX n2 (mE t)) (repX (k + 1) (mP t 1) ++ X3.drop ((k + 1) * 3)) X4 ((((wr.setCell ⟨g, k * 3, none⟩ (.string ⟨#[]⟩)).setCell ⟨g, k * 3 + 1, none⟩ (.int .i64 (t : Int))).setCell ⟨g, k * 3 + 2, none⟩ (.int .i64 1)))) := by
                obtain ⟨o1, g1⟩ := World.ownsRow.stored rI (k * 3) (.string ⟨#[]⟩)
                obtain ⟨o2, g2⟩ := World.ownsRow.stored o1 (k * 3 + 1) (.int .i64 (t : Int))
                obtain ⟨o3, g3⟩ := World.ownsRow.stored o2 (k * 3 + 2) (.int .i64 1)
                rw [set3X hrl (by rw [List.length_append, hrl] at hlen; have := Nat.mul_le_mul_right 3 (show k + 1 ≤ n3 from hlt); rw [Nat.succ_mul] at this; omega)] at o3
                have ex : repX k (mP t 1) ++ [.string ⟨#[]⟩, .int .i64 (t : Int), .int .i64 1] ++ (X3.drop (k * 3)).drop 3 = repX (k + 1) (mP t 1) ++ X3.drop ((k + 1) * 3) := by rw [repX_succ, List.drop_drop, Nat.succ_mul]; rfl
                rw [ex] at o3
                rw [← e1] at o3
                exact DD.out.put3 (by rw [e1]; rfl) o3 (Lib.grownBy_trans (Lib.grownBy_trans (g1) g2) g3)
              subst e1
              clear rI hlen hrl
              go_wp2
              go_roundg (n3 - (k + 1))
              case measure => omega
              case rel => exact ⟨k + 1, by omega, rfl, by go_num, NX.out⟩
            · have ek : n3 = k := by omega
              have hki : ¬ (k : Int) < (n3 : Int) := by omega
              have D3 : Hid (WrS w B #[nv, .slice x1 n1 d1, .slice x2 n2 d2, .slice x3 n3 d3, .slice x4 n4 d4] (.slice x1 n1 d1) (.slice x2 n2 d2) (.slice x3 n3 d3) (.slice x4 n4 d4) n1 n2 n3 n4 (repX n1 (mA t)) (repX n2 (mE t)) (repX n3 (mP t 1)) X4 wr) := by
                have q := DD.out
                have hl := q.r3.1
                rw [List.length_append, repX_len (m := (mP t 1)) (s := 3) rfl, ← ek] at hl
                have e0 : X3.drop (n3 * 3) = [] := List.eq_nil_of_length_eq_zero (by omega)
                rw [← ek, e0, List.append_nil] at q
                exact q
              clear DD ek
              go_wp2
              clear y3
              go_loopg [7] n4 (fun gk v wr => ∃ k : Nat, k ≤ n4 ∧ gk = n4 - k ∧ v = .int .i64 (k : Int) ∧ WrS w B #[nv, .slice x1 n1 d1, .slice x2 n2 d2, .slice x3 n3 d3, .slice x4 n4 d4] (.slice x1 n1 d1) (.slice x2 n2 d2) (.slice x3 n3 d3) (.slice x4 n4 d4) n1 n2 n3 n4 (repX n1 (mA t)) (repX n2 (mE t)) (repX n3 (mP t 1)) (repX k (mP t 2) ++ X4.drop (k * 3)) wr)
              case atStart => exact ⟨0, Nat.zero_le _, rfl, rfl, by rw [Nat.zero_mul, List.drop_zero]; exact D3.out⟩
              case round =>
                clear D3
                obtain ⟨k, hk, rfl, rfl, hD⟩ := hrel
                have DD := hiddenG hD
                clear hD
                have y4 : wr.cell? ⟨w.heap.size, 4, none⟩ = some (.slice x4 n4 d4) := DD.out.gb.cell rfl
                by_cases hlt : k < n4
                · have hki : (k : Int) < (n4 : Int) := by omega
                  have hlen := DD.out.r4.1
                  have hrl : (repX k (mP t 2)).length = k * 3 := repX_len rfl k
                  rcases DD.out.r4.2 with ⟨e1, e0⟩ | ⟨g, cap, cur, e1, -⟩
                  · omega
                  simp only [Value.slice.injEq] at e1
                  obtain ⟨e1, -, -⟩ := e1
                  have rI := DD.out.r4
                  rw [e1] at rI
                  have z0 : ∃ u, wr.cell? ⟨g, k * 3, none⟩ = some u := by
                    rw [rI.cellAt (k * 3) (by omega), List.getElem?_eq_getElem (by rw [hlen]; omega)]
                    exact ⟨_, rfl⟩
                  have z1 : ∃ u, wr.cell? ⟨g, k * 3 + 1, none⟩ = some u := by
                    rw [rI.cellAt (k * 3 + 1) (by omega), List.getElem?_eq_getElem (by rw [hlen]; omega)]
                    exact ⟨_, rfl⟩
                  have z2 : ∃ u, wr.cell? ⟨g, k * 3 + 2, none⟩ = some u := by
                    rw [rI.cellAt (k * 3 + 2) (by omega), List.getElem?_eq_getElem (by rw [hlen]; omega)]
                    exact ⟨_, rfl⟩
                  obtain ⟨u0, z0⟩ := z0
                  obtain ⟨u1, z1⟩ := z1
                  obtain ⟨u2, z2⟩ := z2
                  have f0 := rI.frozenAt (k * 3)
                  have f1 := rI.frozenAt (k * 3 + 1)
                  have f2 := rI.frozenAt (k * 3 + 2)
                  have NX : Hid (WrS w B #[nv, .slice x1 n1 d1, .slice x2 n2 d2, .slice x3 n3 d3, .slice x4 n4 d4] (.slice x1 n1 d1) (.slice x2 n2 d2) (.slice x3 n3 d3) (.slice x4 n4 d4) n1 n2 n3 n4 (repX n1 (mA t)) (repX n2 (mE t)) (repX n3 (mP t 1)) (repX (k + 1) (mP t 2) ++ X4.drop ((k + 1) * 3)) ((((wr.setCell ⟨g, k * 3, none⟩ (.string ⟨#[]⟩)).setCell ⟨g, k * 3 + 1, none⟩ (.int .i64 (t : Int))).setCell ⟨g, k * 3 + 2, none⟩ (.int .i64 2)))) := by
                    obtain ⟨o1, g1⟩ := World.ownsRow.stored rI (k * 3) (.string ⟨#[]⟩)
                    obtain ⟨o2, g2⟩ := World.ownsRow.stored o1 (k * 3 + 1) (.int .i64 (t : Int))
                    obtain ⟨o3, g3⟩ := World.ownsRow.stored o2 (k * 3 + 2) (.int .i64 2)
                    rw [set3X hrl (by rw [List.length_append, hrl] at hlen; have := Nat.mul_le_mul_right 3 (show k + 1 ≤ n4 from hlt); rw [Nat.succ_mul] at this; omega)] at o3
                    have ex : repX k (mP t 2) ++ [.string ⟨#[]⟩, .int .i64 (t : Int), .int .i64 2] ++ (X4.drop (k * 3)).drop 3 = repX (k + 1) (mP t 2) ++ X4.drop ((k + 1) * 3) := by rw [repX_succ, List.drop_drop, Nat.succ_mul]; rfl
                    rw [ex] at o3
                    rw [← e1] at o3
                    exact DD.out.put4 (by rw [e1]; rfl) o3 (Lib.grownBy_trans (Lib.grownBy_trans (g1) g2) g3)
                  subst e1
                  clear rI hlen hrl
                  go_wp2
                  go_roundg (n4 - (k + 1))
                  case measure => omega
                  case rel => exact ⟨k + 1, by omega, rfl, by go_num, NX.out⟩
                · have ek : n4 = k := by omega
                  have hki : ¬ (k : Int) < (n4 : Int) := by omega
                  have D4 : Hid (WrS w B #[nv, .slice x1 n1 d1, .slice x2 n2 d2, .slice x3 n3 d3, .slice x4 n4 d4] (.slice x1 n1 d1) (.slice x2 n2 d2) (.slice x3 n3 d3) (.slice x4 n4 d4) n1 n2 n3 n4 (repX n1 (mA t)) (repX n2 (mE t)) (repX n3 (mP t 1)) (repX n4 (mP t 2)) wr) := by
                    have q := DD.out
                    have hl := q.r4.1
                    rw [List.length_append, repX_len (m := (mP t 2)) (s := 3) rfl, ← ek] at hl
                    have e0 : X4.drop (n4 * 3) = [] := List.eq_nil_of_length_eq_zero (by omega)
                    rw [← ek, e0, List.append_nil] at q
                    exact q
                  clear DD ek
                  go_wp2
                  rw [← HRE.out]
                  exact ⟨rfl, .tuple #[], by simp [results, Tryz.results32, go_sem], rfl, D4.out⟩
theorem own_cellG {w : World} {B T c n g j : Nat} {v : Value} {xs : List Value} (h : w.ownsRow B T c v n xs) (hg : v.ownBlock = some g) (hj : j < xs.length) : w.cell? ⟨g, j, none⟩ = xs[j]? := by
  have q := World.ownsRow.cells h hg j (xs[j]) (List.getElem?_eq_getElem hj)
  rw [add_zero5] at q
  rw [q, List.getElem?_eq_getElem hj]
/-- A graph's own lists (v), grown out of older ones (o), which stay as they were. -/
structure GrF (w : World) (B : Nat) (o1 o2 o3 o4 : Value) (O1 O2 O3 O4 : List Value) (v1 v2 v3 v4 : Value) (n1 n2 n3 n4 : Nat) (X1 X2 X3 X4 : List Value) (wr : World) : Prop where
  r1 : wr.ownsRow B 62 3 v1 n1 X1
  r2 : wr.ownsRow B 65 5 v2 n2 X2
  r3 : wr.ownsRow B 81 3 v3 n3 X3
  r4 : wr.ownsRow B 81 3 v4 n4 X4
  n34 : NB v3 v4
  p1 : O1 <+: X1
  p2 : O2 <+: X2
  p3 : O3 <+: X3
  p4 : O4 <+: X4
  q1 : ∀ g, o1.ownBlock = some g → ∀ j, j < O1.length → wr.cell? ⟨g, j, none⟩ = O1[j]?
  q2 : ∀ g, o2.ownBlock = some g → ∀ j, j < O2.length → wr.cell? ⟨g, j, none⟩ = O2[j]?
  q3 : ∀ g, o3.ownBlock = some g → ∀ j, j < O3.length → wr.cell? ⟨g, j, none⟩ = O3[j]?
  q4 : ∀ g, o4.ownBlock = some g → ∀ j, j < O4.length → wr.cell? ⟨g, j, none⟩ = O4[j]?
  l1 : ∀ k, v1.ownBlock = some k → o1.ownBlock = some k ∨ w.heap.size + 2 ≤ k
  l2 : ∀ k, v2.ownBlock = some k → o2.ownBlock = some k ∨ w.heap.size + 2 ≤ k
  l3 : ∀ k, v3.ownBlock = some k → o3.ownBlock = some k ∨ w.heap.size + 2 ≤ k
  l4 : ∀ k, v4.ownBlock = some k → o4.ownBlock = some k ∨ w.heap.size + 2 ≤ k
  s1 : ∀ k, o1.ownBlock = some k → k < w.heap.size
  s2 : ∀ k, o2.ownBlock = some k → k < w.heap.size
  s3 : ∀ k, o3.ownBlock = some k → k < w.heap.size
  s4 : ∀ k, o4.ownBlock = some k → k < w.heap.size
  a12 : NB o1 o2
  a13 : NB o1 o3
  a14 : NB o1 o4
  a23 : NB o2 o3
  a24 : NB o2 o4
  a34 : NB o3 o4
  fr : ∀ k, k < w.heap.size → o1.ownBlock ≠ some k → o2.ownBlock ≠ some k → o3.ownBlock ≠ some k → o4.ownBlock ≠ some k → wr.heap[k]? = w.heap[k]?
  bel : Below B w wr
  hB : B ≤ w.heap.size
structure GrS (w : World) (B : Nat) (nv : Value) (o1 o2 o3 o4 : Value) (O1 O2 O3 O4 : List Value) (v1 v2 v3 v4 : Value) (n1 n2 n3 n4 : Nat) (X1 X2 X3 X4 : List Value) (wr : World) : Prop where
  gb : BlkA 26 w.heap.size wr #[nv, v1, v2, v3, v4]
  rb : BlkA 26 (w.heap.size + 1) wr #[.string ⟨#[]⟩, .slice none 0 0, .slice none 0 0, .slice none 0 0, .slice none 0 0]
  f : GrF w B o1 o2 o3 o4 O1 O2 O3 O4 v1 v2 v3 v4 n1 n2 n3 n4 X1 X2 X3 X4 wr
  big : w.heap.size + 2 ≤ wr.heap.size
theorem GrS.put1 {w B nv o1 o2 o3 o4 O1 O2 O3 O4 v1 v2 v3 v4 n1 n2 n3 n4 X1 X2 X3 X4} {V : World} (h : GrS w B nv o1 o2 o3 o4 O1 O2 O3 O4 v1 v2 v3 v4 n1 n2 n3 n4 X1 X2 X3 X4 V) {w2 w4 : World} {P : List Value} {v' : Value} (hb : Below V.heap.size V w2) (ho : w4.ownsRow B 62 3 v' (n1 + 1) (X1 ++ P))
    (ht : (∃ g cap, v1 = .slice (some ⟨g, 0, none⟩) n1 cap ∧ v' = .slice (some ⟨g, 0, none⟩) (n1 + 1) cap ∧ w2.grownBy w4 (some g)) ∨ (∃ cap, v' = .slice (some ⟨w2.heap.size, 0, none⟩) (n1 + 1) cap ∧ w2.grownBy w4 none)) :
    GrS w B nv o1 o2 o3 o4 O1 O2 O3 O4 v' v2 v3 v4 (n1 + 1) n2 n3 n4 (X1 ++ P) X2 X3 X4 (w4.setCell ⟨w.heap.size, 1, none⟩ v') ∧ BlkA 26 w.heap.size w4 #[nv, v1, v2, v3, v4] := by
  have hbig := h.big
  have hsz := hb.size
  have tk := told_keep ht
  have kp : ∀ d, d < V.heap.size → v1.ownBlock ≠ some d → w4.heap[d]? = V.heap[d]? := fun d hd hn => (tk.2 d (by omega) hn).trans (hb.block d hd)
  have nbox1 : ∀ k, v1.ownBlock = some k → k ≠ w.heap.size := fun k e q => by rcases h.f.l1 k e with z | z; exact absurd (h.f.s1 k z) (by omega); omega
  have nbox2 : ∀ k, v2.ownBlock = some k → k ≠ w.heap.size := fun k e q => by rcases h.f.l2 k e with z | z; exact absurd (h.f.s2 k z) (by omega); omega
  have nbox3 : ∀ k, v3.ownBlock = some k → k ≠ w.heap.size := fun k e q => by rcases h.f.l3 k e with z | z; exact absurd (h.f.s3 k z) (by omega); omega
  have nbox4 : ∀ k, v4.ownBlock = some k → k ≠ w.heap.size := fun k e q => by rcases h.f.l4 k e with z | z; exact absurd (h.f.s4 k z) (by omega); omega
  have nb2 : v1.ownBlock ≠ some (w.heap.size + 1) := fun e => by rcases h.f.l1 _ e with z | z; exact absurd (h.f.s1 _ z) (by omega); omega
  have b3 := h.gb.keep (kp w.heap.size (by omega) (fun e => nbox1 _ e rfl))
  have set : ∀ k, k ≠ w.heap.size → (w4.setCell ⟨w.heap.size, 1, none⟩ v').heap[k]? = w4.heap[k]? := fun k hk => Below.heap_setCell w4 ⟨w.heap.size, 1, none⟩ v' k hk
  have nboxN : ∀ k, v'.ownBlock = some k → k ≠ w.heap.size := fun k e q => by
    rcases ht with ⟨g, cap, e1, e2, -⟩ | ⟨cap, e2, -⟩
    · rw [e2] at e; cases e; exact nbox1 g (by rw [e1]; rfl) q
    · rw [e2] at e; have e' : w2.heap.size = k := Option.some.inj e; omega
  have rI : (w4.setCell ⟨w.heap.size, 1, none⟩ v').ownsRow B 62 3 v' (n1 + 1) (X1 ++ P) := ownR_keep ho fun k e => set k (nboxN k e)
  have cellSame : ∀ g, g < w.heap.size → v1.ownBlock ≠ some g → ∀ {j : Nat}, (w4.setCell ⟨w.heap.size, 1, none⟩ v').cell? ⟨g, j, none⟩ = V.cell? ⟨g, j, none⟩ := fun g hg hn j => by
    have e : (w4.setCell ⟨w.heap.size, 1, none⟩ v').heap[g]? = V.heap[g]? := (set g (by omega)).trans (kp g (by omega) hn)
    simp only [World.cell?, e]
  have qI : ∀ g, o1.ownBlock = some g → ∀ j, j < O1.length → (w4.setCell ⟨w.heap.size, 1, none⟩ v').cell? ⟨g, j, none⟩ = O1[j]? := fun g hg j hj => by
    by_cases hvg : v1.ownBlock = some g
    · have hgs := h.f.s1 g hg
      rcases ht with ⟨g', cap, e1, e2, -⟩ | ⟨cap, e2, hgn⟩
      · rw [e1] at hvg
        cases hvg
        rw [e2] at rI
        have hl := rI.1
        have hpl := h.f.p1.length_le
        have hXl := h.f.r1.1
        have e9 := rI.cellAt j (by rw [Nat.succ_mul]; omega)
        rw [← e2] at e9
        rw [e9, List.getElem?_append_left (by omega)]
        obtain ⟨z, hz⟩ := h.f.p1
        rw [← hz, List.getElem?_append_left hj]
      · have e : (w4.setCell ⟨w.heap.size, 1, none⟩ v').heap[g]? = V.heap[g]? := (set g (by omega)).trans ((hgn.block g (by omega) (fun e => by cases e)).trans (hb.block g (by omega)))
        have e9 : (w4.setCell ⟨w.heap.size, 1, none⟩ v').cell? ⟨g, j, none⟩ = V.cell? ⟨g, j, none⟩ := by simp only [World.cell?, e]
        rw [e9]
        exact h.f.q1 g hg j hj
    · rw [cellSame g (h.f.s1 g hg) hvg]
      exact h.f.q1 g hg j hj
  have lI : ∀ k, v'.ownBlock = some k → o1.ownBlock = some k ∨ w.heap.size + 2 ≤ k := fun k e => by
    rcases ht with ⟨g, cap, e1, e2, -⟩ | ⟨cap, e2, -⟩
    · rw [e2] at e; cases e; exact h.f.l1 g (by rw [e1]; rfl)
    · rw [e2] at e; have e' : w2.heap.size = k := Option.some.inj e; exact .inr (by omega)
  have hBw := h.f.hB
  obtain ⟨row, hg, hrow⟩ := told_grown ht
  refine ⟨⟨b3.set 1 v', h.rb.keep ((set _ (by omega)).trans (kp _ (by omega) nb2)), ⟨rI, (ownR_keep h.f.r2 fun k e => (set k (nbox2 k e)).trans (kp k (own_lt h.f.r2 k e) (fun q => (own_types h.f.r1 h.f.r2 (by decide)) k q e))), (ownR_keep h.f.r3 fun k e => (set k (nbox3 k e)).trans (kp k (own_lt h.f.r3 k e) (fun q => (own_types h.f.r1 h.f.r3 (by decide)) k q e))), (ownR_keep h.f.r4 fun k e => (set k (nbox4 k e)).trans (kp k (own_lt h.f.r4 k e) (fun q => (own_types h.f.r1 h.f.r4 (by decide)) k q e))), h.f.n34, (h.f.p1.trans (List.prefix_append _ _)), h.f.p2, h.f.p3, h.f.p4, qI, (fun g hg j hj => by rw [cellSame g (h.f.s2 g hg) (fun e => by rcases h.f.l1 g e with q | q; exact h.f.a12 g q hg; exact absurd (h.f.s2 g hg) (by omega))]; exact h.f.q2 g hg j hj), (fun g hg j hj => by rw [cellSame g (h.f.s3 g hg) (fun e => by rcases h.f.l1 g e with q | q; exact h.f.a13 g q hg; exact absurd (h.f.s3 g hg) (by omega))]; exact h.f.q3 g hg j hj), (fun g hg j hj => by rw [cellSame g (h.f.s4 g hg) (fun e => by rcases h.f.l1 g e with q | q; exact h.f.a14 g q hg; exact absurd (h.f.s4 g hg) (by omega))]; exact h.f.q4 g hg j hj), lI, h.f.l2, h.f.l3, h.f.l4, h.f.s1, h.f.s2, h.f.s3, h.f.s4, h.f.a12, h.f.a13, h.f.a14, h.f.a23, h.f.a24, h.f.a34, fun k hk z1 z2 z3 z4 => ((set k (by omega)).trans (kp k (by omega) (fun e => by rcases h.f.l1 k e with q | q; exact z1 q; omega))).trans (h.f.fr k hk z1 z2 z3 z4), ?_, hBw⟩, ?_⟩, b3⟩
  · have h1 : Below B w w2 := h.f.bel.trans (hb.mono (Nat.le_trans hBw h.f.bel.size))
    exact (below_grownO h1 hg (fun k hk => own_row h.f.r1 k (hrow k hk)) (Nat.le_trans hBw h1.size)).setCell (p := ⟨w.heap.size, 1, none⟩) hBw _
  · have := tk.1
    rw [World.size_setCell]
    omega
theorem GrS.put2 {w B nv o1 o2 o3 o4 O1 O2 O3 O4 v1 v2 v3 v4 n1 n2 n3 n4 X1 X2 X3 X4} {V : World} (h : GrS w B nv o1 o2 o3 o4 O1 O2 O3 O4 v1 v2 v3 v4 n1 n2 n3 n4 X1 X2 X3 X4 V) {w2 w4 : World} {P : List Value} {v' : Value} (hb : Below V.heap.size V w2) (ho : w4.ownsRow B 65 5 v' (n2 + 1) (X2 ++ P))
    (ht : (∃ g cap, v2 = .slice (some ⟨g, 0, none⟩) n2 cap ∧ v' = .slice (some ⟨g, 0, none⟩) (n2 + 1) cap ∧ w2.grownBy w4 (some g)) ∨ (∃ cap, v' = .slice (some ⟨w2.heap.size, 0, none⟩) (n2 + 1) cap ∧ w2.grownBy w4 none)) :
    GrS w B nv o1 o2 o3 o4 O1 O2 O3 O4 v1 v' v3 v4 n1 (n2 + 1) n3 n4 X1 (X2 ++ P) X3 X4 (w4.setCell ⟨w.heap.size, 2, none⟩ v') ∧ BlkA 26 w.heap.size w4 #[nv, v1, v2, v3, v4] := by
  have hbig := h.big
  have hsz := hb.size
  have tk := told_keep ht
  have kp : ∀ d, d < V.heap.size → v2.ownBlock ≠ some d → w4.heap[d]? = V.heap[d]? := fun d hd hn => (tk.2 d (by omega) hn).trans (hb.block d hd)
  have nbox1 : ∀ k, v1.ownBlock = some k → k ≠ w.heap.size := fun k e q => by rcases h.f.l1 k e with z | z; exact absurd (h.f.s1 k z) (by omega); omega
  have nbox2 : ∀ k, v2.ownBlock = some k → k ≠ w.heap.size := fun k e q => by rcases h.f.l2 k e with z | z; exact absurd (h.f.s2 k z) (by omega); omega
  have nbox3 : ∀ k, v3.ownBlock = some k → k ≠ w.heap.size := fun k e q => by rcases h.f.l3 k e with z | z; exact absurd (h.f.s3 k z) (by omega); omega
  have nbox4 : ∀ k, v4.ownBlock = some k → k ≠ w.heap.size := fun k e q => by rcases h.f.l4 k e with z | z; exact absurd (h.f.s4 k z) (by omega); omega
  have nb2 : v2.ownBlock ≠ some (w.heap.size + 1) := fun e => by rcases h.f.l2 _ e with z | z; exact absurd (h.f.s2 _ z) (by omega); omega
  have b3 := h.gb.keep (kp w.heap.size (by omega) (fun e => nbox2 _ e rfl))
  have set : ∀ k, k ≠ w.heap.size → (w4.setCell ⟨w.heap.size, 2, none⟩ v').heap[k]? = w4.heap[k]? := fun k hk => Below.heap_setCell w4 ⟨w.heap.size, 2, none⟩ v' k hk
  have nboxN : ∀ k, v'.ownBlock = some k → k ≠ w.heap.size := fun k e q => by
    rcases ht with ⟨g, cap, e1, e2, -⟩ | ⟨cap, e2, -⟩
    · rw [e2] at e; cases e; exact nbox2 g (by rw [e1]; rfl) q
    · rw [e2] at e; have e' : w2.heap.size = k := Option.some.inj e; omega
  have rI : (w4.setCell ⟨w.heap.size, 2, none⟩ v').ownsRow B 65 5 v' (n2 + 1) (X2 ++ P) := ownR_keep ho fun k e => set k (nboxN k e)
  have cellSame : ∀ g, g < w.heap.size → v2.ownBlock ≠ some g → ∀ {j : Nat}, (w4.setCell ⟨w.heap.size, 2, none⟩ v').cell? ⟨g, j, none⟩ = V.cell? ⟨g, j, none⟩ := fun g hg hn j => by
    have e : (w4.setCell ⟨w.heap.size, 2, none⟩ v').heap[g]? = V.heap[g]? := (set g (by omega)).trans (kp g (by omega) hn)
    simp only [World.cell?, e]
  have qI : ∀ g, o2.ownBlock = some g → ∀ j, j < O2.length → (w4.setCell ⟨w.heap.size, 2, none⟩ v').cell? ⟨g, j, none⟩ = O2[j]? := fun g hg j hj => by
    by_cases hvg : v2.ownBlock = some g
    · have hgs := h.f.s2 g hg
      rcases ht with ⟨g', cap, e1, e2, -⟩ | ⟨cap, e2, hgn⟩
      · rw [e1] at hvg
        cases hvg
        rw [e2] at rI
        have hl := rI.1
        have hpl := h.f.p2.length_le
        have hXl := h.f.r2.1
        have e9 := rI.cellAt j (by rw [Nat.succ_mul]; omega)
        rw [← e2] at e9
        rw [e9, List.getElem?_append_left (by omega)]
        obtain ⟨z, hz⟩ := h.f.p2
        rw [← hz, List.getElem?_append_left hj]
      · have e : (w4.setCell ⟨w.heap.size, 2, none⟩ v').heap[g]? = V.heap[g]? := (set g (by omega)).trans ((hgn.block g (by omega) (fun e => by cases e)).trans (hb.block g (by omega)))
        have e9 : (w4.setCell ⟨w.heap.size, 2, none⟩ v').cell? ⟨g, j, none⟩ = V.cell? ⟨g, j, none⟩ := by simp only [World.cell?, e]
        rw [e9]
        exact h.f.q2 g hg j hj
    · rw [cellSame g (h.f.s2 g hg) hvg]
      exact h.f.q2 g hg j hj
  have lI : ∀ k, v'.ownBlock = some k → o2.ownBlock = some k ∨ w.heap.size + 2 ≤ k := fun k e => by
    rcases ht with ⟨g, cap, e1, e2, -⟩ | ⟨cap, e2, -⟩
    · rw [e2] at e; cases e; exact h.f.l2 g (by rw [e1]; rfl)
    · rw [e2] at e; have e' : w2.heap.size = k := Option.some.inj e; exact .inr (by omega)
  have hBw := h.f.hB
  obtain ⟨row, hg, hrow⟩ := told_grown ht
  refine ⟨⟨b3.set 2 v', h.rb.keep ((set _ (by omega)).trans (kp _ (by omega) nb2)), ⟨(ownR_keep h.f.r1 fun k e => (set k (nbox1 k e)).trans (kp k (own_lt h.f.r1 k e) (fun q => (own_types h.f.r2 h.f.r1 (by decide)) k q e))), rI, (ownR_keep h.f.r3 fun k e => (set k (nbox3 k e)).trans (kp k (own_lt h.f.r3 k e) (fun q => (own_types h.f.r2 h.f.r3 (by decide)) k q e))), (ownR_keep h.f.r4 fun k e => (set k (nbox4 k e)).trans (kp k (own_lt h.f.r4 k e) (fun q => (own_types h.f.r2 h.f.r4 (by decide)) k q e))), h.f.n34, h.f.p1, (h.f.p2.trans (List.prefix_append _ _)), h.f.p3, h.f.p4, (fun g hg j hj => by rw [cellSame g (h.f.s1 g hg) (fun e => by rcases h.f.l2 g e with q | q; exact h.f.a12.symm g q hg; exact absurd (h.f.s1 g hg) (by omega))]; exact h.f.q1 g hg j hj), qI, (fun g hg j hj => by rw [cellSame g (h.f.s3 g hg) (fun e => by rcases h.f.l2 g e with q | q; exact h.f.a23 g q hg; exact absurd (h.f.s3 g hg) (by omega))]; exact h.f.q3 g hg j hj), (fun g hg j hj => by rw [cellSame g (h.f.s4 g hg) (fun e => by rcases h.f.l2 g e with q | q; exact h.f.a24 g q hg; exact absurd (h.f.s4 g hg) (by omega))]; exact h.f.q4 g hg j hj), h.f.l1, lI, h.f.l3, h.f.l4, h.f.s1, h.f.s2, h.f.s3, h.f.s4, h.f.a12, h.f.a13, h.f.a14, h.f.a23, h.f.a24, h.f.a34, fun k hk z1 z2 z3 z4 => ((set k (by omega)).trans (kp k (by omega) (fun e => by rcases h.f.l2 k e with q | q; exact z2 q; omega))).trans (h.f.fr k hk z1 z2 z3 z4), ?_, hBw⟩, ?_⟩, b3⟩
  · have h1 : Below B w w2 := h.f.bel.trans (hb.mono (Nat.le_trans hBw h.f.bel.size))
    exact (below_grownO h1 hg (fun k hk => own_row h.f.r2 k (hrow k hk)) (Nat.le_trans hBw h1.size)).setCell (p := ⟨w.heap.size, 2, none⟩) hBw _
  · have := tk.1
    rw [World.size_setCell]
    omega
theorem GrS.put3 {w B nv o1 o2 o3 o4 O1 O2 O3 O4 v1 v2 v3 v4 n1 n2 n3 n4 X1 X2 X3 X4} {V : World} (h : GrS w B nv o1 o2 o3 o4 O1 O2 O3 O4 v1 v2 v3 v4 n1 n2 n3 n4 X1 X2 X3 X4 V) {w2 w4 : World} {P : List Value} {v' : Value} (hb : Below V.heap.size V w2) (ho : w4.ownsRow B 81 3 v' (n3 + 1) (X3 ++ P))
    (ht : (∃ g cap, v3 = .slice (some ⟨g, 0, none⟩) n3 cap ∧ v' = .slice (some ⟨g, 0, none⟩) (n3 + 1) cap ∧ w2.grownBy w4 (some g)) ∨ (∃ cap, v' = .slice (some ⟨w2.heap.size, 0, none⟩) (n3 + 1) cap ∧ w2.grownBy w4 none)) :
    GrS w B nv o1 o2 o3 o4 O1 O2 O3 O4 v1 v2 v' v4 n1 n2 (n3 + 1) n4 X1 X2 (X3 ++ P) X4 (w4.setCell ⟨w.heap.size, 3, none⟩ v') ∧ BlkA 26 w.heap.size w4 #[nv, v1, v2, v3, v4] := by
  have hbig := h.big
  have hsz := hb.size
  have tk := told_keep ht
  have kp : ∀ d, d < V.heap.size → v3.ownBlock ≠ some d → w4.heap[d]? = V.heap[d]? := fun d hd hn => (tk.2 d (by omega) hn).trans (hb.block d hd)
  have nbox1 : ∀ k, v1.ownBlock = some k → k ≠ w.heap.size := fun k e q => by rcases h.f.l1 k e with z | z; exact absurd (h.f.s1 k z) (by omega); omega
  have nbox2 : ∀ k, v2.ownBlock = some k → k ≠ w.heap.size := fun k e q => by rcases h.f.l2 k e with z | z; exact absurd (h.f.s2 k z) (by omega); omega
  have nbox3 : ∀ k, v3.ownBlock = some k → k ≠ w.heap.size := fun k e q => by rcases h.f.l3 k e with z | z; exact absurd (h.f.s3 k z) (by omega); omega
  have nbox4 : ∀ k, v4.ownBlock = some k → k ≠ w.heap.size := fun k e q => by rcases h.f.l4 k e with z | z; exact absurd (h.f.s4 k z) (by omega); omega
  have nb2 : v3.ownBlock ≠ some (w.heap.size + 1) := fun e => by rcases h.f.l3 _ e with z | z; exact absurd (h.f.s3 _ z) (by omega); omega
  have b3 := h.gb.keep (kp w.heap.size (by omega) (fun e => nbox3 _ e rfl))
  have set : ∀ k, k ≠ w.heap.size → (w4.setCell ⟨w.heap.size, 3, none⟩ v').heap[k]? = w4.heap[k]? := fun k hk => Below.heap_setCell w4 ⟨w.heap.size, 3, none⟩ v' k hk
  have nboxN : ∀ k, v'.ownBlock = some k → k ≠ w.heap.size := fun k e q => by
    rcases ht with ⟨g, cap, e1, e2, -⟩ | ⟨cap, e2, -⟩
    · rw [e2] at e; cases e; exact nbox3 g (by rw [e1]; rfl) q
    · rw [e2] at e; have e' : w2.heap.size = k := Option.some.inj e; omega
  have rI : (w4.setCell ⟨w.heap.size, 3, none⟩ v').ownsRow B 81 3 v' (n3 + 1) (X3 ++ P) := ownR_keep ho fun k e => set k (nboxN k e)
  have cellSame : ∀ g, g < w.heap.size → v3.ownBlock ≠ some g → ∀ {j : Nat}, (w4.setCell ⟨w.heap.size, 3, none⟩ v').cell? ⟨g, j, none⟩ = V.cell? ⟨g, j, none⟩ := fun g hg hn j => by
    have e : (w4.setCell ⟨w.heap.size, 3, none⟩ v').heap[g]? = V.heap[g]? := (set g (by omega)).trans (kp g (by omega) hn)
    simp only [World.cell?, e]
  have qI : ∀ g, o3.ownBlock = some g → ∀ j, j < O3.length → (w4.setCell ⟨w.heap.size, 3, none⟩ v').cell? ⟨g, j, none⟩ = O3[j]? := fun g hg j hj => by
    by_cases hvg : v3.ownBlock = some g
    · have hgs := h.f.s3 g hg
      rcases ht with ⟨g', cap, e1, e2, -⟩ | ⟨cap, e2, hgn⟩
      · rw [e1] at hvg
        cases hvg
        rw [e2] at rI
        have hl := rI.1
        have hpl := h.f.p3.length_le
        have hXl := h.f.r3.1
        have e9 := rI.cellAt j (by rw [Nat.succ_mul]; omega)
        rw [← e2] at e9
        rw [e9, List.getElem?_append_left (by omega)]
        obtain ⟨z, hz⟩ := h.f.p3
        rw [← hz, List.getElem?_append_left hj]
      · have e : (w4.setCell ⟨w.heap.size, 3, none⟩ v').heap[g]? = V.heap[g]? := (set g (by omega)).trans ((hgn.block g (by omega) (fun e => by cases e)).trans (hb.block g (by omega)))
        have e9 : (w4.setCell ⟨w.heap.size, 3, none⟩ v').cell? ⟨g, j, none⟩ = V.cell? ⟨g, j, none⟩ := by simp only [World.cell?, e]
        rw [e9]
        exact h.f.q3 g hg j hj
    · rw [cellSame g (h.f.s3 g hg) hvg]
      exact h.f.q3 g hg j hj
  have lI : ∀ k, v'.ownBlock = some k → o3.ownBlock = some k ∨ w.heap.size + 2 ≤ k := fun k e => by
    rcases ht with ⟨g, cap, e1, e2, -⟩ | ⟨cap, e2, -⟩
    · rw [e2] at e; cases e; exact h.f.l3 g (by rw [e1]; rfl)
    · rw [e2] at e; have e' : w2.heap.size = k := Option.some.inj e; exact .inr (by omega)
  have hBw := h.f.hB
  obtain ⟨row, hg, hrow⟩ := told_grown ht
  refine ⟨⟨b3.set 3 v', h.rb.keep ((set _ (by omega)).trans (kp _ (by omega) nb2)), ⟨(ownR_keep h.f.r1 fun k e => (set k (nbox1 k e)).trans (kp k (own_lt h.f.r1 k e) (fun q => (own_types h.f.r3 h.f.r1 (by decide)) k q e))), (ownR_keep h.f.r2 fun k e => (set k (nbox2 k e)).trans (kp k (own_lt h.f.r2 k e) (fun q => (own_types h.f.r3 h.f.r2 (by decide)) k q e))), rI, (ownR_keep h.f.r4 fun k e => (set k (nbox4 k e)).trans (kp k (own_lt h.f.r4 k e) (fun q => h.f.n34 k q e))), (NB.told h.f.n34 (fun k e => Nat.lt_of_lt_of_le (own_lt h.f.r4 k e) hsz) ht), h.f.p1, h.f.p2, (h.f.p3.trans (List.prefix_append _ _)), h.f.p4, (fun g hg j hj => by rw [cellSame g (h.f.s1 g hg) (fun e => by rcases h.f.l3 g e with q | q; exact h.f.a13.symm g q hg; exact absurd (h.f.s1 g hg) (by omega))]; exact h.f.q1 g hg j hj), (fun g hg j hj => by rw [cellSame g (h.f.s2 g hg) (fun e => by rcases h.f.l3 g e with q | q; exact h.f.a23.symm g q hg; exact absurd (h.f.s2 g hg) (by omega))]; exact h.f.q2 g hg j hj), qI, (fun g hg j hj => by rw [cellSame g (h.f.s4 g hg) (fun e => by rcases h.f.l3 g e with q | q; exact h.f.a34 g q hg; exact absurd (h.f.s4 g hg) (by omega))]; exact h.f.q4 g hg j hj), h.f.l1, h.f.l2, lI, h.f.l4, h.f.s1, h.f.s2, h.f.s3, h.f.s4, h.f.a12, h.f.a13, h.f.a14, h.f.a23, h.f.a24, h.f.a34, fun k hk z1 z2 z3 z4 => ((set k (by omega)).trans (kp k (by omega) (fun e => by rcases h.f.l3 k e with q | q; exact z3 q; omega))).trans (h.f.fr k hk z1 z2 z3 z4), ?_, hBw⟩, ?_⟩, b3⟩
  · have h1 : Below B w w2 := h.f.bel.trans (hb.mono (Nat.le_trans hBw h.f.bel.size))
    exact (below_grownO h1 hg (fun k hk => own_row h.f.r3 k (hrow k hk)) (Nat.le_trans hBw h1.size)).setCell (p := ⟨w.heap.size, 3, none⟩) hBw _
  · have := tk.1
    rw [World.size_setCell]
    omega
theorem GrS.put4 {w B nv o1 o2 o3 o4 O1 O2 O3 O4 v1 v2 v3 v4 n1 n2 n3 n4 X1 X2 X3 X4} {V : World} (h : GrS w B nv o1 o2 o3 o4 O1 O2 O3 O4 v1 v2 v3 v4 n1 n2 n3 n4 X1 X2 X3 X4 V) {w2 w4 : World} {P : List Value} {v' : Value} (hb : Below V.heap.size V w2) (ho : w4.ownsRow B 81 3 v' (n4 + 1) (X4 ++ P))
    (ht : (∃ g cap, v4 = .slice (some ⟨g, 0, none⟩) n4 cap ∧ v' = .slice (some ⟨g, 0, none⟩) (n4 + 1) cap ∧ w2.grownBy w4 (some g)) ∨ (∃ cap, v' = .slice (some ⟨w2.heap.size, 0, none⟩) (n4 + 1) cap ∧ w2.grownBy w4 none)) :
    GrS w B nv o1 o2 o3 o4 O1 O2 O3 O4 v1 v2 v3 v' n1 n2 n3 (n4 + 1) X1 X2 X3 (X4 ++ P) (w4.setCell ⟨w.heap.size, 4, none⟩ v') ∧ BlkA 26 w.heap.size w4 #[nv, v1, v2, v3, v4] := by
  have hbig := h.big
  have hsz := hb.size
  have tk := told_keep ht
  have kp : ∀ d, d < V.heap.size → v4.ownBlock ≠ some d → w4.heap[d]? = V.heap[d]? := fun d hd hn => (tk.2 d (by omega) hn).trans (hb.block d hd)
  have nbox1 : ∀ k, v1.ownBlock = some k → k ≠ w.heap.size := fun k e q => by rcases h.f.l1 k e with z | z; exact absurd (h.f.s1 k z) (by omega); omega
  have nbox2 : ∀ k, v2.ownBlock = some k → k ≠ w.heap.size := fun k e q => by rcases h.f.l2 k e with z | z; exact absurd (h.f.s2 k z) (by omega); omega
  have nbox3 : ∀ k, v3.ownBlock = some k → k ≠ w.heap.size := fun k e q => by rcases h.f.l3 k e with z | z; exact absurd (h.f.s3 k z) (by omega); omega
  have nbox4 : ∀ k, v4.ownBlock = some k → k ≠ w.heap.size := fun k e q => by rcases h.f.l4 k e with z | z; exact absurd (h.f.s4 k z) (by omega); omega
  have nb2 : v4.ownBlock ≠ some (w.heap.size + 1) := fun e => by rcases h.f.l4 _ e with z | z; exact absurd (h.f.s4 _ z) (by omega); omega
  have b3 := h.gb.keep (kp w.heap.size (by omega) (fun e => nbox4 _ e rfl))
  have set : ∀ k, k ≠ w.heap.size → (w4.setCell ⟨w.heap.size, 4, none⟩ v').heap[k]? = w4.heap[k]? := fun k hk => Below.heap_setCell w4 ⟨w.heap.size, 4, none⟩ v' k hk
  have nboxN : ∀ k, v'.ownBlock = some k → k ≠ w.heap.size := fun k e q => by
    rcases ht with ⟨g, cap, e1, e2, -⟩ | ⟨cap, e2, -⟩
    · rw [e2] at e; cases e; exact nbox4 g (by rw [e1]; rfl) q
    · rw [e2] at e; have e' : w2.heap.size = k := Option.some.inj e; omega
  have rI : (w4.setCell ⟨w.heap.size, 4, none⟩ v').ownsRow B 81 3 v' (n4 + 1) (X4 ++ P) := ownR_keep ho fun k e => set k (nboxN k e)
  have cellSame : ∀ g, g < w.heap.size → v4.ownBlock ≠ some g → ∀ {j : Nat}, (w4.setCell ⟨w.heap.size, 4, none⟩ v').cell? ⟨g, j, none⟩ = V.cell? ⟨g, j, none⟩ := fun g hg hn j => by
    have e : (w4.setCell ⟨w.heap.size, 4, none⟩ v').heap[g]? = V.heap[g]? := (set g (by omega)).trans (kp g (by omega) hn)
    simp only [World.cell?, e]
  have qI : ∀ g, o4.ownBlock = some g → ∀ j, j < O4.length → (w4.setCell ⟨w.heap.size, 4, none⟩ v').cell? ⟨g, j, none⟩ = O4[j]? := fun g hg j hj => by
    by_cases hvg : v4.ownBlock = some g
    · have hgs := h.f.s4 g hg
      rcases ht with ⟨g', cap, e1, e2, -⟩ | ⟨cap, e2, hgn⟩
      · rw [e1] at hvg
        cases hvg
        rw [e2] at rI
        have hl := rI.1
        have hpl := h.f.p4.length_le
        have hXl := h.f.r4.1
        have e9 := rI.cellAt j (by rw [Nat.succ_mul]; omega)
        rw [← e2] at e9
        rw [e9, List.getElem?_append_left (by omega)]
        obtain ⟨z, hz⟩ := h.f.p4
        rw [← hz, List.getElem?_append_left hj]
      · have e : (w4.setCell ⟨w.heap.size, 4, none⟩ v').heap[g]? = V.heap[g]? := (set g (by omega)).trans ((hgn.block g (by omega) (fun e => by cases e)).trans (hb.block g (by omega)))
        have e9 : (w4.setCell ⟨w.heap.size, 4, none⟩ v').cell? ⟨g, j, none⟩ = V.cell? ⟨g, j, none⟩ := by simp only [World.cell?, e]
        rw [e9]
        exact h.f.q4 g hg j hj
    · rw [cellSame g (h.f.s4 g hg) hvg]
      exact h.f.q4 g hg j hj
  have lI : ∀ k, v'.ownBlock = some k → o4.ownBlock = some k ∨ w.heap.size + 2 ≤ k := fun k e => by
    rcases ht with ⟨g, cap, e1, e2, -⟩ | ⟨cap, e2, -⟩
    · rw [e2] at e; cases e; exact h.f.l4 g (by rw [e1]; rfl)
    · rw [e2] at e; have e' : w2.heap.size = k := Option.some.inj e; exact .inr (by omega)
  have hBw := h.f.hB
  obtain ⟨row, hg, hrow⟩ := told_grown ht
  refine ⟨⟨b3.set 4 v', h.rb.keep ((set _ (by omega)).trans (kp _ (by omega) nb2)), ⟨(ownR_keep h.f.r1 fun k e => (set k (nbox1 k e)).trans (kp k (own_lt h.f.r1 k e) (fun q => (own_types h.f.r4 h.f.r1 (by decide)) k q e))), (ownR_keep h.f.r2 fun k e => (set k (nbox2 k e)).trans (kp k (own_lt h.f.r2 k e) (fun q => (own_types h.f.r4 h.f.r2 (by decide)) k q e))), (ownR_keep h.f.r3 fun k e => (set k (nbox3 k e)).trans (kp k (own_lt h.f.r3 k e) (fun q => h.f.n34.symm k q e))), rI, (NB.told h.f.n34.symm (fun k e => Nat.lt_of_lt_of_le (own_lt h.f.r3 k e) hsz) ht).symm, h.f.p1, h.f.p2, h.f.p3, (h.f.p4.trans (List.prefix_append _ _)), (fun g hg j hj => by rw [cellSame g (h.f.s1 g hg) (fun e => by rcases h.f.l4 g e with q | q; exact h.f.a14.symm g q hg; exact absurd (h.f.s1 g hg) (by omega))]; exact h.f.q1 g hg j hj), (fun g hg j hj => by rw [cellSame g (h.f.s2 g hg) (fun e => by rcases h.f.l4 g e with q | q; exact h.f.a24.symm g q hg; exact absurd (h.f.s2 g hg) (by omega))]; exact h.f.q2 g hg j hj), (fun g hg j hj => by rw [cellSame g (h.f.s3 g hg) (fun e => by rcases h.f.l4 g e with q | q; exact h.f.a34.symm g q hg; exact absurd (h.f.s3 g hg) (by omega))]; exact h.f.q3 g hg j hj), qI, h.f.l1, h.f.l2, h.f.l3, lI, h.f.s1, h.f.s2, h.f.s3, h.f.s4, h.f.a12, h.f.a13, h.f.a14, h.f.a23, h.f.a24, h.f.a34, fun k hk z1 z2 z3 z4 => ((set k (by omega)).trans (kp k (by omega) (fun e => by rcases h.f.l4 k e with q | q; exact z4 q; omega))).trans (h.f.fr k hk z1 z2 z3 z4), ?_, hBw⟩, ?_⟩, b3⟩
  · have h1 : Below B w w2 := h.f.bel.trans (hb.mono (Nat.le_trans hBw h.f.bel.size))
    exact (below_grownO h1 hg (fun k hk => own_row h.f.r4 k (hrow k hk)) (Nat.le_trans hBw h1.size)).setCell (p := ⟨w.heap.size, 4, none⟩) hBw _
  · have := tk.1
    rw [World.size_setCell]
    omega
theorem mA_one (t : Nat) : ∀ u ∈ mA t, u.oneCell' = true := by
  intro u hu
  simp only [mA, List.mem_cons, List.not_mem_nil, or_false] at hu
  rcases hu with rfl | rfl | rfl <;> rfl
theorem mE_one (t : Nat) : ∀ u ∈ mE t, u.oneCell' = true := by
  intro u hu
  simp only [mE, List.mem_cons, List.not_mem_nil, or_false] at hu
  rcases hu with rfl | rfl | rfl | rfl | rfl <;> rfl
theorem mP_one (t q : Nat) : ∀ u ∈ mP t q, u.oneCell' = true := by
  intro u hu
  simp only [mP, List.mem_cons, List.not_mem_nil, or_false] at hu
  rcases hu with rfl | rfl | rfl <;> rfl
/-- How grownGraph ends. -/
def GrnE (w : World) (B : Nat) (nv : Value) (o1 o2 o3 o4 : Value) (O1 O2 O3 O4 : List Value) (n1 n2 n3 n4 t : Nat) (e : Ending) (w' : World) : Prop :=
  ∃ y1 y2 y3 y4 e1 e2 e3 e4, e = .returned (.agg #[nv, .slice y1 (n1 + 16) e1, .slice y2 (n2 + 16) e2, .slice y3 (n3 + 16) e3, .slice y4 (n4 + 16) e4]) ∧ GrF w B o1 o2 o3 o4 O1 O2 O3 O4 (.slice y1 (n1 + 16) e1) (.slice y2 (n2 + 16) e2) (.slice y3 (n3 + 16) e3) (.slice y4 (n4 + 16) e4) (n1 + 16) (n2 + 16) (n3 + 16) (n4 + 16) (O1 ++ repX 16 (mA t)) (O2 ++ repX 16 (mE t)) (O3 ++ repX 16 (mP t 1)) (O4 ++ repX 16 (mP t 2)) w'
set_option maxRecDepth 100000 in
set_option maxHeartbeats 32000000 in
theorem grown_any (B : Nat) (nv : Value) (x1 x2 x3 x4 : Option Addr) (n1 n2 n3 n4 d1 d2 d3 d4 t : Nat) (X1 X2 X3 X4 : List Value) (w : World) (h1 : w.ownsRow B 62 3 (.slice x1 n1 d1) n1 X1) (h2 : w.ownsRow B 65 5 (.slice x2 n2 d2) n2 X2) (h3 : w.ownsRow B 81 3 (.slice x3 n3 d3) n3 X3) (h4 : w.ownsRow B 81 3 (.slice x4 n4 d4) n4 X4) (hn : NB (.slice x3 n3 d3) (.slice x4 n4 d4)) (hB : B ≤ w.heap.size) (ht : t ≤ 255) (c1 : n1 ≤ 1000) (c2 : n2 ≤ 1000) (c3 : n3 ≤ 1000) (c4 : n4 ≤ 1000) (hnv : nv.oneCell' = true) :
    Calls Tryz.prog 33 #[.agg #[nv, .slice x1 n1 d1, .slice x2 n2 d2, .slice x3 n3 d3, .slice x4 n4 d4], .int .i64 (t : Int)] w (GrnE w B nv (.slice x1 n1 d1) (.slice x2 n2 d2) (.slice x3 n3 d3) (.slice x4 n4 d4) X1 X2 X3 X4 n1 n2 n3 n4 t) := by
  obtain ⟨RE, hRE⟩ : ∃ R, GrnE w B nv (.slice x1 n1 d1) (.slice x2 n2 d2) (.slice x3 n3 d3) (.slice x4 n4 d4) X1 X2 X3 X4 n1 n2 n3 n4 t = R := ⟨_, rfl⟩
  rw [hRE]
  have HRE := hiddenG hRE
  have D0 : Hid (GrS w B nv (.slice x1 n1 d1) (.slice x2 n2 d2) (.slice x3 n3 d3) (.slice x4 n4 d4) X1 X2 X3 X4 (.slice x1 n1 d1) (.slice x2 n2 d2) (.slice x3 n3 d3) (.slice x4 n4 d4) (n1) (n2) (n3) (n4) (X1) (X2) (X3) (X4) ((w.alloc (.cells #[nv, .slice x1 n1 d1, .slice x2 n2 d2, .slice x3 n3 d3, .slice x4 n4 d4] 26)).alloc (.cells #[.string ⟨#[]⟩, .slice none 0 0, .slice none 0 0, .slice none 0 0, .slice none 0 0] 26))) := by
    have ba := (Below.refl w.heap.size w).alloc (Nat.le_refl _) (.cells #[nv, .slice x1 n1 d1, .slice x2 n2 d2, .slice x3 n3 d3, .slice x4 n4 d4] 26)
    have bb := (Below.refl _ _).alloc (Nat.le_refl _) (.cells #[.string ⟨#[]⟩, .slice none 0 0, .slice none 0 0, .slice none 0 0, .slice none 0 0] 26) (w := w.alloc (.cells #[nv, .slice x1 n1 d1, .slice x2 n2 d2, .slice x3 n3 d3, .slice x4 n4 d4] 26))
    have bc := ba.trans (bb.mono ba.size)
    have rb := blkA_new 26 (w.alloc (.cells #[nv, .slice x1 n1 d1, .slice x2 n2 d2, .slice x3 n3 d3, .slice x4 n4 d4] 26)) #[.string ⟨#[]⟩, .slice none 0 0, .slice none 0 0, .slice none 0 0, .slice none 0 0]
    rw [World.size_alloc] at rb
    refine ⟨(blkA_new 26 w _).below bb, rb, ⟨owns_below h1 bc, owns_below h2 bc, owns_below h3 bc, owns_below h4 bc, hn, List.prefix_refl _, List.prefix_refl _, List.prefix_refl _, List.prefix_refl _, fun g hg j hj => ?_, fun g hg j hj => ?_, fun g hg j hj => ?_, fun g hg j hj => ?_, fun k e => .inl e, fun k e => .inl e, fun k e => .inl e, fun k e => .inl e, own_lt h1, own_lt h2, own_lt h3, own_lt h4, own_types h1 h2 (by decide), own_types h1 h3 (by decide), own_types h1 h4 (by decide), own_types h2 h3 (by decide), own_types h2 h4 (by decide), hn, fun k hk _ _ _ _ => bc.block k hk, bc.mono hB, hB⟩, by rw [World.size_alloc, World.size_alloc]; omega⟩
    · exact own_cellG (owns_below h1 bc) hg hj
    · exact own_cellG (owns_below h2 bc) hg hj
    · exact own_cellG (owns_below h3 bc) hg hj
    · exact own_cellG (owns_below h4 bc) hg hj
  have hcv : IntKind.u8.wrap (t : Int) = (t : Int) := by
    rw [IntKind.wrap_u8]
    omega
  have i1 : (n1 : Int) ≤ 1000 := by omega
  have i2 : (n2 : Int) ≤ 1000 := by omega
  have i3 : (n3 : Int) ≤ 1000 := by omega
  have i4 : (n4 : Int) ≤ 1000 := by omega
  obtain ⟨iA, hiA, hzA0, hzA1, hzA2⟩ := info_parts Tryz.infoA
  have JA := hiddenG hiA
  have JA0 := hiddenG hzA0
  have JA1 := hiddenG hzA1
  have JA2 := hiddenG hzA2
  obtain ⟨iE, hiE, hzE0, hzE1, hzE2⟩ := info_parts Tryz.infoE
  have JE := hiddenG hiE
  have JE0 := hiddenG hzE0
  have JE1 := hiddenG hzE1
  have JE2 := hiddenG hzE2
  obtain ⟨iP, hiP, hzP0, hzP1, hzP2⟩ := info_parts Tryz.infoP
  have JP := hiddenG hiP
  have JP0 := hiddenG hzP0
  have JP1 := hiddenG hzP1
  have JP2 := hiddenG hzP2
  clear h1 h2 h3 h4 hn hRE hB hiA hzA0 hzA1 hzA2 hiE hzE0 hzE1 hzE2 hiP hzP0 hzP1 hzP2
  go_enter Tryz.func33, Tryz.ntmps33
  go_upto_region 1 with fail
  generalize (w.alloc (.cells #[nv, .slice x1 n1 d1, .slice x2 n2 d2, .slice x3 n3 d3, .slice x4 n4 d4] 26)).alloc (.cells #[.string ⟨#[]⟩, .slice none 0 0, .slice none 0 0, .slice none 0 0, .slice none 0 0] 26) = W0 at *
  go_wp2
  go_loopg [5] 16 (fun gk v wr => ∃ (q : Nat) (y1 y2 y3 y4 : Option Addr) (e1 e2 e3 e4 : Nat), q ≤ 16 ∧ gk = 16 - q ∧ v = .int .i64 (q : Int) ∧ GrS w B nv (.slice x1 n1 d1) (.slice x2 n2 d2) (.slice x3 n3 d3) (.slice x4 n4 d4) X1 X2 X3 X4 (.slice y1 (n1 + q) e1) (.slice y2 (n2 + q) e2) (.slice y3 (n3 + q) e3) (.slice y4 (n4 + q) e4) (n1 + q) (n2 + q) (n3 + q) (n4 + q) (X1 ++ repX q (mA t)) (X2 ++ repX q (mE t)) (X3 ++ repX q (mP t 1)) (X4 ++ repX q (mP t 2)) wr)
  case atStart => exact ⟨0, x1, x2, x3, x4, d1, d2, d3, d4, Nat.zero_le _, rfl, rfl, by
    have e0 : ∀ m : List Value, repX 0 m = [] := fun m => rfl
    simp only [e0, List.append_nil, Nat.add_zero]
    exact D0.out⟩
  case round =>
    clear D0
    obtain ⟨q, y1, y2, y3, y4, e1, e2, e3, e4, hq, rfl, rfl, hD⟩ := hrel
    have D1 := hiddenG hD
    clear hD
    by_cases hlt : q < 16
    · have hqi : (q : Int) < 16 := by omega
      have bv1 := (Below.refl wr.heap.size wr).alloc (Nat.le_refl _) (.cells #[.string ⟨#[]⟩, .int .u8 (t : Int), .slice none 0 0] 62)
      have BV1 := hiddenG bv1
      have DV1 := hiddenG D1.out
      have k1 : wr.cell? ⟨w.heap.size, 1, none⟩ = some (.slice y1 (n1 + q) e1) := D1.out.gb.cell rfl
      have kk1 : (wr.alloc (.cells #[.string ⟨#[]⟩, .int .u8 (t : Int), .slice none 0 0] 62)).cell? ⟨w.heap.size, 1, none⟩ = some (.slice y1 (n1 + q) e1) := cell_keep bv1 k1
      have nw1 := cells_new wr 62 (mA t)
      clear bv1
      go_upto_region 5 with (at_builtin; refine wpList_append_told _ rfl (.tmp 11) (.tmp 15) 22 rfl B 62 iA (.agg #[.string ⟨#[]⟩, .int .u8 0, .slice none 0 0]) 3 48 Tryz.underlying22 JA.out JA0.out JA1.out JA2.out rfl (by decide) (.slice y1 (n1 + q) e1) (n1 + q) (X1 ++ repX q (mA t)) rfl (owns_below D1.out.f.r1 BV1.out) ⟨wr.heap.size, 0, none⟩ 1 1 (by decide) (mA t) rfl rfl nw1 (mA_one t) (by unfold maxLen; omega) (by omega) (Nat.le_trans D1.out.f.hB (Nat.le_trans (Nat.le_trans (Nat.le_add_right _ 2) D1.out.big) BV1.out.size)) ?_; intro v' w4 ho ht; obtain ⟨D10, bk⟩ := D1.out.put1 BV1.out ho ht; obtain ⟨z1, f1, rfl⟩ := told_shape ht; have D2 := hiddenG D10; have s1 : w4.cell? ⟨w.heap.size, 1, none⟩ = some (.slice y1 (n1 + q) e1) := bk.cell rfl; have f9 := bk.frozen 1; clear ho ht D10 bk)
      clear k1 kk1 nw1 s1 f9
      generalize w4.setCell ⟨w.heap.size, 1, none⟩ (.slice z1 (n1 + q + 1) f1) = U1 at *
      have bv2 := (Below.refl U1.heap.size U1).alloc (Nat.le_refl _) (.cells #[.int .i64 (t : Int), .int .i64 0, .int .i64 0, .int .i64 0, .slice none 0 0] 65)
      have BV2 := hiddenG bv2
      have DV2 := hiddenG D2.out
      have k2 : U1.cell? ⟨w.heap.size, 2, none⟩ = some (.slice y2 (n2 + q) e2) := D2.out.gb.cell rfl
      have kk2 : (U1.alloc (.cells #[.int .i64 (t : Int), .int .i64 0, .int .i64 0, .int .i64 0, .slice none 0 0] 65)).cell? ⟨w.heap.size, 2, none⟩ = some (.slice y2 (n2 + q) e2) := cell_keep bv2 k2
      have nw2 := cells_new U1 65 (mE t)
      clear bv2
      go_upto_region 6 with (at_builtin; refine wpList_append_told _ rfl (.tmp 19) (.tmp 22) 23 rfl B 65 iE (.agg #[.int .i64 0, .int .i64 0, .int .i64 0, .int .i64 0, .slice none 0 0]) 5 56 Tryz.underlying23 JE.out JE0.out JE1.out JE2.out rfl (by decide) (.slice y2 (n2 + q) e2) (n2 + q) (X2 ++ repX q (mE t)) rfl (owns_below D2.out.f.r2 BV2.out) ⟨U1.heap.size, 0, none⟩ 1 1 (by decide) (mE t) rfl rfl nw2 (mE_one t) (by unfold maxLen; omega) (by omega) (Nat.le_trans D2.out.f.hB (Nat.le_trans (Nat.le_trans (Nat.le_add_right _ 2) D2.out.big) BV2.out.size)) ?_; intro v' w4 ho ht; obtain ⟨D10, bk⟩ := D2.out.put2 BV2.out ho ht; obtain ⟨z2, f2, rfl⟩ := told_shape ht; have D3 := hiddenG D10; have s1 : w4.cell? ⟨w.heap.size, 2, none⟩ = some (.slice y2 (n2 + q) e2) := bk.cell rfl; have f9 := bk.frozen 2; clear ho ht D10 bk)
      clear k2 kk2 nw2 s1 f9
      generalize w4.setCell ⟨w.heap.size, 2, none⟩ (.slice z2 (n2 + q + 1) f2) = U2 at *
      have bv3 := (Below.refl U2.heap.size U2).alloc (Nat.le_refl _) (.cells #[.string ⟨#[]⟩, .int .i64 (t : Int), .int .i64 1] 81)
      have BV3 := hiddenG bv3
      have DV3 := hiddenG D3.out
      have k3 : U2.cell? ⟨w.heap.size, 3, none⟩ = some (.slice y3 (n3 + q) e3) := D3.out.gb.cell rfl
      have kk3 : (U2.alloc (.cells #[.string ⟨#[]⟩, .int .i64 (t : Int), .int .i64 1] 81)).cell? ⟨w.heap.size, 3, none⟩ = some (.slice y3 (n3 + q) e3) := cell_keep bv3 k3
      have nw3 := cells_new U2 81 (mP t 1)
      clear bv3
      go_upto_region 7 with (at_builtin; refine wpList_append_told _ rfl (.tmp 26) (.tmp 29) 24 rfl B 81 iP (.agg #[.string ⟨#[]⟩, .int .i64 0, .int .i64 0]) 3 32 Tryz.underlying24 JP.out JP0.out JP1.out JP2.out rfl (by decide) (.slice y3 (n3 + q) e3) (n3 + q) (X3 ++ repX q (mP t 1)) rfl (owns_below D3.out.f.r3 BV3.out) ⟨U2.heap.size, 0, none⟩ 1 1 (by decide) (mP t 1) rfl rfl nw3 (mP_one t 1) (by unfold maxLen; omega) (by omega) (Nat.le_trans D3.out.f.hB (Nat.le_trans (Nat.le_trans (Nat.le_add_right _ 2) D3.out.big) BV3.out.size)) ?_; intro v' w4 ho ht; obtain ⟨D10, bk⟩ := D3.out.put3 BV3.out ho ht; obtain ⟨z3, f3, rfl⟩ := told_shape ht; have D4 := hiddenG D10; have s1 : w4.cell? ⟨w.heap.size, 3, none⟩ = some (.slice y3 (n3 + q) e3) := bk.cell rfl; have f9 := bk.frozen 3; clear ho ht D10 bk)
      clear k3 kk3 nw3 s1 f9
      generalize w4.setCell ⟨w.heap.size, 3, none⟩ (.slice z3 (n3 + q + 1) f3) = U3 at *
      have bv4 := (Below.refl U3.heap.size U3).alloc (Nat.le_refl _) (.cells #[.string ⟨#[]⟩, .int .i64 (t : Int), .int .i64 2] 81)
      have BV4 := hiddenG bv4
      have DV4 := hiddenG D4.out
      have k4 : U3.cell? ⟨w.heap.size, 4, none⟩ = some (.slice y4 (n4 + q) e4) := D4.out.gb.cell rfl
      have kk4 : (U3.alloc (.cells #[.string ⟨#[]⟩, .int .i64 (t : Int), .int .i64 2] 81)).cell? ⟨w.heap.size, 4, none⟩ = some (.slice y4 (n4 + q) e4) := cell_keep bv4 k4
      have nw4 := cells_new U3 81 (mP t 2)
      clear bv4
      go_wp2_with (at_builtin; refine wpList_append_told _ rfl (.tmp 33) (.tmp 36) 24 rfl B 81 iP (.agg #[.string ⟨#[]⟩, .int .i64 0, .int .i64 0]) 3 32 Tryz.underlying24 JP.out JP0.out JP1.out JP2.out rfl (by decide) (.slice y4 (n4 + q) e4) (n4 + q) (X4 ++ repX q (mP t 2)) rfl (owns_below D4.out.f.r4 BV4.out) ⟨U3.heap.size, 0, none⟩ 1 1 (by decide) (mP t 2) rfl rfl nw4 (mP_one t 2) (by unfold maxLen; omega) (by omega) (Nat.le_trans D4.out.f.hB (Nat.le_trans (Nat.le_trans (Nat.le_add_right _ 2) D4.out.big) BV4.out.size)) ?_; intro v' w4 ho ht; obtain ⟨D10, bk⟩ := D4.out.put4 BV4.out ho ht; obtain ⟨z4, f4, rfl⟩ := told_shape ht; have D5 := hiddenG D10; have s1 : w4.cell? ⟨w.heap.size, 4, none⟩ = some (.slice y4 (n4 + q) e4) := bk.cell rfl; have f9 := bk.frozen 4; clear ho ht D10 bk)
      go_roundg (16 - (q + 1))
      case measure => omega
      case rel => exact ⟨q + 1, z1, z2, z3, z4, f1, f2, f3, f4, by omega, rfl, by go_num, by
        have r := D5.out
        simp only [List.append_assoc, ← repX_succ, Nat.add_assoc] at r
        exact r⟩
    · have hqi : ¬ (q : Int) < 16 := by omega
      have k0 : wr.cell? ⟨w.heap.size, 0, none⟩ = some nv := D1.out.gb.cell rfl
      have k1 : wr.cell? ⟨w.heap.size, 1, none⟩ = some (.slice y1 (n1 + q) e1) := D1.out.gb.cell rfl
      have k2 : wr.cell? ⟨w.heap.size, 2, none⟩ = some (.slice y2 (n2 + q) e2) := D1.out.gb.cell rfl
      have k3 : wr.cell? ⟨w.heap.size, 3, none⟩ = some (.slice y3 (n3 + q) e3) := D1.out.gb.cell rfl
      have k4 : wr.cell? ⟨w.heap.size, 4, none⟩ = some (.slice y4 (n4 + q) e4) := D1.out.gb.cell rfl
      go_wp2_with (refine wpList_storeW _ rfl 26 (.tmp 4) (.tmp 39) rfl rfl (w.heap.size + 1) 26 _ _ rfl rfl D1.out.rb sizG rfl (by simp [hnv]; exact ⟨rfl, rfl, rfl, rfl⟩) ?_; intro w8 hN hU; have N8 := hiddenG hN; have U8 := hiddenG hU; clear hN hU)
      have t0 : w8.cell? ⟨w.heap.size + 1, 0, none⟩ = some nv := N8.out.cell rfl
      have t1 : w8.cell? ⟨w.heap.size + 1, 1, none⟩ = some (.slice y1 (n1 + q) e1) := N8.out.cell rfl
      have t2 : w8.cell? ⟨w.heap.size + 1, 2, none⟩ = some (.slice y2 (n2 + q) e2) := N8.out.cell rfl
      have t3 : w8.cell? ⟨w.heap.size + 1, 3, none⟩ = some (.slice y3 (n3 + q) e3) := N8.out.cell rfl
      have t4 : w8.cell? ⟨w.heap.size + 1, 4, none⟩ = some (.slice y4 (n4 + q) e4) := N8.out.cell rfl
      refine bodyPost_ret (v := .agg #[nv, .slice y1 (n1 + q) e1, .slice y2 (n2 + q) e2, .slice y3 (n3 + q) e3, .slice y4 (n4 + q) e4]) (by simp [results, Tryz.results33, go_sem, t0, t1, t2, t3, t4]) rfl ?_
      rw [← HRE.out]
      have eq : q = 16 := by omega
      subst eq
      have d := D1.out.f
      have hb := D1.out.big
      have kp : ∀ {T c n : Nat} {v o : Value} {xs : List Value}, wr.ownsRow B T c v n xs → (∀ k, v.ownBlock = some k → o.ownBlock = some k ∨ w.heap.size + 2 ≤ k) → (∀ k, o.ownBlock = some k → k < w.heap.size) → w8.ownsRow B T c v n xs := fun r hl hs => ownR_keep r fun k e => U8.out.block k (own_lt r k e) (fun z => by rcases hl k e with y | y; exact absurd (hs k y) (by omega); omega)
      have cs : ∀ g, g < w.heap.size → ∀ j, w8.cell? ⟨g, j, none⟩ = wr.cell? ⟨g, j, none⟩ := fun g hg j => by
        have e := U8.out.block g (by omega) (by omega)
        simp only [World.cell?, e]
      exact ⟨y1, y2, y3, y4, e1, e2, e3, e4, rfl, ⟨kp d.r1 d.l1 d.s1, kp d.r2 d.l2 d.s2, kp d.r3 d.l3 d.s3, kp d.r4 d.l4 d.s4, d.n34, d.p1, d.p2, d.p3, d.p4, fun g hg j hj => (cs g (d.s1 g hg) j).trans (d.q1 g hg j hj), fun g hg j hj => (cs g (d.s2 g hg) j).trans (d.q2 g hg j hj), fun g hg j hj => (cs g (d.s3 g hg) j).trans (d.q3 g hg j hj), fun g hg j hj => (cs g (d.s4 g hg) j).trans (d.q4 g hg j hj), d.l1, d.l2, d.l3, d.l4, d.s1, d.s2, d.s3, d.s4, d.a12, d.a13, d.a14, d.a23, d.a24, d.a34, fun k hk z1 z2 z3 z4 => (U8.out.block k (by omega) (by omega)).trans (d.fr k hk z1 z2 z3 z4), d.bel.trans (U8.out.below (Nat.le_trans d.hB (Nat.le_succ _)) (Nat.le_trans d.hB d.bel.size)), d.hB⟩⟩
/-- In all n places of a row whose elements have s cells, cell j is v. -/
def MkR (w : World) (x : Option Addr) (n s j : Nat) (v : Value) : Prop := ∀ k, k < n → ∃ g m, x = some ⟨g, m, none⟩ ∧ w.cell? ⟨g, m + k * s + j, none⟩ = some v
theorem MkR.below {w w' : World} {b : Nat} {x : Option Addr} {n s j : Nat} {v : Value} (h : MkR w x n s j v) (hb : Below b w w') (hl : ∀ g m, x = some ⟨g, m, none⟩ → g < b) : MkR w' x n s j v := fun k hk => by
  obtain ⟨g, m, e, c⟩ := h k hk
  refine ⟨g, m, e, ?_⟩
  have q := hb.block g (hl g m e)
  simp only [World.cell?] at c ⊢
  rw [q]
  exact c
theorem MkR.keep {w w' : World} {x : Option Addr} {n s j : Nat} {v : Value} (h : MkR w x n s j v) (hl : ∀ g m, x = some ⟨g, m, none⟩ → w'.heap[g]? = w.heap[g]?) : MkR w' x n s j v := fun k hk => by
  obtain ⟨g, m, e, c⟩ := h k hk
  refine ⟨g, m, e, ?_⟩
  have q := hl g m e
  simp only [World.cell?] at c ⊢
  rw [q]
  exact c
/-- All marks of a graph. -/
structure MkG (w : World) (x1 x2 x3 x4 : Option Addr) (n1 n2 n3 n4 t : Nat) : Prop where
  m11 : MkR w x1 n1 3 1 (.int .u8 (t : Int))
  m20 : MkR w x2 n2 5 0 (.int .i64 (t : Int))
  m31 : MkR w x3 n3 3 1 (.int .i64 (t : Int))
  m32 : MkR w x3 n3 3 2 (.int .i64 1)
  m41 : MkR w x4 n4 3 1 (.int .i64 (t : Int))
  m42 : MkR w x4 n4 3 2 (.int .i64 2)
theorem MkG.keep {w w' : World} {x1 x2 x3 x4 : Option Addr} {n1 n2 n3 n4 t : Nat} (h : MkG w x1 x2 x3 x4 n1 n2 n3 n4 t) (hl : ∀ g m, (x1 = some ⟨g, m, none⟩ ∨ x2 = some ⟨g, m, none⟩ ∨ x3 = some ⟨g, m, none⟩ ∨ x4 = some ⟨g, m, none⟩) → w'.heap[g]? = w.heap[g]?) : MkG w' x1 x2 x3 x4 n1 n2 n3 n4 t :=
  ⟨h.m11.keep fun g m e => hl g m (.inl e), h.m20.keep fun g m e => hl g m (.inr (.inl e)), h.m31.keep fun g m e => hl g m (.inr (.inr (.inl e))), h.m32.keep fun g m e => hl g m (.inr (.inr (.inl e))), h.m41.keep fun g m e => hl g m (.inr (.inr (.inr e))), h.m42.keep fun g m e => hl g m (.inr (.inr (.inr e)))⟩
set_option maxRecDepth 100000 in
set_option maxHeartbeats 16000000 in
theorem marked_any (nv : Value) (x1 x2 x3 x4 : Option Addr) (n1 n2 n3 n4 d1 d2 d3 d4 t : Nat) (w : World) (h : MkG w x1 x2 x3 x4 n1 n2 n3 n4 t) (hlt : ∀ g m, (x1 = some ⟨g, m, none⟩ ∨ x2 = some ⟨g, m, none⟩ ∨ x3 = some ⟨g, m, none⟩ ∨ x4 = some ⟨g, m, none⟩) → g < w.heap.size) (ht : t ≤ 255) (l1 : n1 ≤ 2000) (l2 : n2 ≤ 2000) (l3 : n3 ≤ 2000) (l4 : n4 ≤ 2000) :
    Calls Tryz.prog 34 #[.agg #[nv, .slice x1 n1 d1, .slice x2 n2 d2, .slice x3 n3 d3, .slice x4 n4 d4], .int .i64 (t : Int)] w (fun e w' => e = .returned (.bool true) ∧ Below w.heap.size w w') := by
  have bz := (Below.refl w.heap.size w).alloc (Nat.le_refl _) (.cells #[nv, .slice x1 n1 d1, .slice x2 n2 d2, .slice x3 n3 d3, .slice x4 n4 d4] 26)
  have M : Hid (MkG (w.alloc (.cells #[nv, .slice x1 n1 d1, .slice x2 n2 d2, .slice x3 n3 d3, .slice x4 n4 d4] 26)) x1 x2 x3 x4 n1 n2 n3 n4 t) := h.keep fun g m e => bz.block g (hlt g m e)
  have HB := hiddenG bz
  have y1 : (w.alloc (.cells #[nv, .slice x1 n1 d1, .slice x2 n2 d2, .slice x3 n3 d3, .slice x4 n4 d4] 26)).cell? ⟨w.heap.size, 1, none⟩ = some (.slice x1 n1 d1) := (blkA_new 26 w _).cell rfl
  have y2 : (w.alloc (.cells #[nv, .slice x1 n1 d1, .slice x2 n2 d2, .slice x3 n3 d3, .slice x4 n4 d4] 26)).cell? ⟨w.heap.size, 2, none⟩ = some (.slice x2 n2 d2) := (blkA_new 26 w _).cell rfl
  have y3 : (w.alloc (.cells #[nv, .slice x1 n1 d1, .slice x2 n2 d2, .slice x3 n3 d3, .slice x4 n4 d4] 26)).cell? ⟨w.heap.size, 3, none⟩ = some (.slice x3 n3 d3) := (blkA_new 26 w _).cell rfl
  have y4 : (w.alloc (.cells #[nv, .slice x1 n1 d1, .slice x2 n2 d2, .slice x3 n3 d3, .slice x4 n4 d4] 26)).cell? ⟨w.heap.size, 4, none⟩ = some (.slice x4 n4 d4) := (blkA_new 26 w _).cell rfl
  have hcv : IntKind.u8.wrap (t : Int) = (t : Int) := by
    rw [IntKind.wrap_u8]
    omega
  have i1 : (n1 : Int) ≤ 2000 := by omega
  have i2 : (n2 : Int) ≤ 2000 := by omega
  have i3 : (n3 : Int) ≤ 2000 := by omega
  have i4 : (n4 : Int) ≤ 2000 := by omega
  clear h hlt bz
  go_enter Tryz.func34, Tryz.ntmps34
  go_upto_region 1 with fail
  generalize w.alloc (.cells #[nv, .slice x1 n1 d1, .slice x2 n2 d2, .slice x3 n3 d3, .slice x4 n4 d4] 26) = W0 at *
  go_wp2
  go_loopg [5] n1 (fun gk v wr => ∃ k : Nat, k ≤ n1 ∧ gk = n1 - k ∧ v = .int .i64 (k : Int) ∧ W0 = wr)
  case atStart => exact ⟨0, Nat.zero_le _, rfl, rfl, rfl⟩
  case round =>
    obtain ⟨k, hk, rfl, rfl, rfl⟩ := hrel
    by_cases hlt : k < n1
    · have hki : (k : Int) < (n1 : Int) := by omega
      obtain ⟨g, m, e1, c1⟩ := M.out.m11 k hlt
      clear M
      subst e1
      go_wp2
      go_roundg (n1 - (k + 1))
      case measure => omega
      case rel => exact ⟨k + 1, by omega, rfl, by go_num, rfl⟩
    · have hki : ¬ (k : Int) < (n1 : Int) := by omega
      go_wp2
      clear hk hlt hki
      go_loopg [6] n2 (fun gk v wr => ∃ k : Nat, k ≤ n2 ∧ gk = n2 - k ∧ v = .int .i64 (k : Int) ∧ W0 = wr)
      case atStart => exact ⟨0, Nat.zero_le _, rfl, rfl, rfl⟩
      case round =>
        obtain ⟨k, hk, rfl, rfl, rfl⟩ := hrel
        by_cases hlt : k < n2
        · have hki : (k : Int) < (n2 : Int) := by omega
          obtain ⟨g, m, e1, c0⟩ := M.out.m20 k hlt
          simp only [Nat.add_zero] at c0
          clear M
          subst e1
          go_wp2
          go_roundg (n2 - (k + 1))
          case measure => omega
          case rel => exact ⟨k + 1, by omega, rfl, by go_num, rfl⟩
        · have hki : ¬ (k : Int) < (n2 : Int) := by omega
          go_wp2
          clear hk hlt hki
          go_loopg [7] n3 (fun gk v wr => ∃ k : Nat, k ≤ n3 ∧ gk = n3 - k ∧ v = .int .i64 (k : Int) ∧ W0 = wr)
          case atStart => exact ⟨0, Nat.zero_le _, rfl, rfl, rfl⟩
          case round =>
            obtain ⟨k, hk, rfl, rfl, rfl⟩ := hrel
            by_cases hlt : k < n3
            · have hki : (k : Int) < (n3 : Int) := by omega
              obtain ⟨g, m, e1, c1⟩ := M.out.m31 k hlt
              obtain ⟨g2, m2, e2, c2⟩ := M.out.m32 k hlt
              rw [e1] at e2
              cases e2
              clear M
              subst e1
              go_wp2
              go_roundg (n3 - (k + 1))
              case measure => omega
              case rel => exact ⟨k + 1, by omega, rfl, by go_num, rfl⟩
            · have hki : ¬ (k : Int) < (n3 : Int) := by omega
              go_wp2
              clear hk hlt hki
              go_loopg [8] n4 (fun gk v wr => ∃ k : Nat, k ≤ n4 ∧ gk = n4 - k ∧ v = .int .i64 (k : Int) ∧ W0 = wr)
              case atStart => exact ⟨0, Nat.zero_le _, rfl, rfl, rfl⟩
              case round =>
                obtain ⟨k, hk, rfl, rfl, rfl⟩ := hrel
                by_cases hlt : k < n4
                · have hki : (k : Int) < (n4 : Int) := by omega
                  obtain ⟨g, m, e1, c1⟩ := M.out.m41 k hlt
                  obtain ⟨g2, m2, e2, c2⟩ := M.out.m42 k hlt
                  rw [e1] at e2
                  cases e2
                  clear M
                  subst e1
                  go_wp2
                  go_roundg (n4 - (k + 1))
                  case measure => omega
                  case rel => exact ⟨k + 1, by omega, rfl, by go_num, rfl⟩
                · have hki : ¬ (k : Int) < (n4 : Int) := by omega
                  go_wp2
                  refine bodyPost_ret (v := .bool true) (by simp [results, Tryz.results34, go_sem]) rfl ?_
                  exact ⟨rfl, HB.out⟩
set_option maxRecDepth 100000 in
set_option maxHeartbeats 16000000 in
theorem behind_any (nv nu : Value) (x1 x2 x3 x4 : Option Addr) (n1 n2 n3 n4 d1 d2 d3 d4 g1 g2 g3 g4 e1 e2 e3 e4 : Nat) (w : World) (h1 : n1 + 16 ≤ e1) (h2 : n2 + 16 ≤ e2) (h3 : n3 + 16 ≤ e3) (h4 : n4 + 16 ≤ e4) :
    Calls Tryz.prog 35 #[.agg #[nv, .slice (some ⟨g1, 0, none⟩) (n1 + 16) e1, .slice (some ⟨g2, 0, none⟩) (n2 + 16) e2, .slice (some ⟨g3, 0, none⟩) (n3 + 16) e3, .slice (some ⟨g4, 0, none⟩) (n4 + 16) e4], .agg #[nu, .slice x1 n1 d1, .slice x2 n2 d2, .slice x3 n3 d3, .slice x4 n4 d4]] w (fun e w' => e = .returned (.agg #[.string ⟨#[]⟩, .slice (some ⟨g1, n1 * 3, none⟩) 16 (e1 - n1), .slice (some ⟨g2, n2 * 5, none⟩) 16 (e2 - n2), .slice (some ⟨g3, n3 * 3, none⟩) 16 (e3 - n3), .slice (some ⟨g4, n4 * 3, none⟩) 16 (e4 - n4)]) ∧ Below w.heap.size w w') := by
  have b1 := (Below.refl w.heap.size w).alloc (Nat.le_refl _) (.cells #[nv, .slice (some ⟨g1, 0, none⟩) (n1 + 16) e1, .slice (some ⟨g2, 0, none⟩) (n2 + 16) e2, .slice (some ⟨g3, 0, none⟩) (n3 + 16) e3, .slice (some ⟨g4, 0, none⟩) (n4 + 16) e4] 26)
  have b2 := (Below.refl _ _).alloc (Nat.le_refl _) (.cells #[nu, .slice x1 n1 d1, .slice x2 n2 d2, .slice x3 n3 d3, .slice x4 n4 d4] 26) (w := w.alloc (.cells #[nv, .slice (some ⟨g1, 0, none⟩) (n1 + 16) e1, .slice (some ⟨g2, 0, none⟩) (n2 + 16) e2, .slice (some ⟨g3, 0, none⟩) (n3 + 16) e3, .slice (some ⟨g4, 0, none⟩) (n4 + 16) e4] 26))
  have b3 := (Below.refl _ _).alloc (Nat.le_refl _) (.cells #[.string ⟨#[]⟩, .slice none 0 0, .slice none 0 0, .slice none 0 0, .slice none 0 0] 26) (w := (w.alloc (.cells #[nv, .slice (some ⟨g1, 0, none⟩) (n1 + 16) e1, .slice (some ⟨g2, 0, none⟩) (n2 + 16) e2, .slice (some ⟨g3, 0, none⟩) (n3 + 16) e3, .slice (some ⟨g4, 0, none⟩) (n4 + 16) e4] 26)).alloc (.cells #[nu, .slice x1 n1 d1, .slice x2 n2 d2, .slice x3 n3 d3, .slice x4 n4 d4] 26))
  have cb := ((blkA_new 26 w #[nv, .slice (some ⟨g1, 0, none⟩) (n1 + 16) e1, .slice (some ⟨g2, 0, none⟩) (n2 + 16) e2, .slice (some ⟨g3, 0, none⟩) (n3 + 16) e3, .slice (some ⟨g4, 0, none⟩) (n4 + 16) e4]).below b2).below b3
  have ab := (blkA_new 26 (w.alloc (.cells #[nv, .slice (some ⟨g1, 0, none⟩) (n1 + 16) e1, .slice (some ⟨g2, 0, none⟩) (n2 + 16) e2, .slice (some ⟨g3, 0, none⟩) (n3 + 16) e3, .slice (some ⟨g4, 0, none⟩) (n4 + 16) e4] 26)) #[nu, .slice x1 n1 d1, .slice x2 n2 d2, .slice x3 n3 d3, .slice x4 n4 d4]).below b3
  rw [World.size_alloc] at ab
  have rb := blkA_new 26 ((w.alloc (.cells #[nv, .slice (some ⟨g1, 0, none⟩) (n1 + 16) e1, .slice (some ⟨g2, 0, none⟩) (n2 + 16) e2, .slice (some ⟨g3, 0, none⟩) (n3 + 16) e3, .slice (some ⟨g4, 0, none⟩) (n4 + 16) e4] 26)).alloc (.cells #[nu, .slice x1 n1 d1, .slice x2 n2 d2, .slice x3 n3 d3, .slice x4 n4 d4] 26)) #[.string ⟨#[]⟩, .slice none 0 0, .slice none 0 0, .slice none 0 0, .slice none 0 0]
  rw [World.size_alloc, World.size_alloc] at rb
  have BA := hiddenG ((b1.trans (b2.mono b1.size)).trans (b3.mono (Nat.le_trans b1.size b2.size)))
  have RB := hiddenG rb
  have y1 := cb.cell (k := 1) rfl
  have z1 := ab.cell (k := 1) rfl
  have y2 := cb.cell (k := 2) rfl
  have z2 := ab.cell (k := 2) rfl
  have y3 := cb.cell (k := 3) rfl
  have z3 := ab.cell (k := 3) rfl
  have y4 := cb.cell (k := 4) rfl
  have z4 := ab.cell (k := 4) rfl
  have r1 : ¬ e1 = n1 := by omega
  have r2 : ¬ e2 = n2 := by omega
  have r3 : ¬ e3 = n3 := by omega
  have r4 : ¬ e4 = n4 := by omega
  clear b1 b2 b3 cb ab rb
  go_enter Tryz.func35, Tryz.ntmps35
  go_upto_region 1 with fail
  generalize ((w.alloc (.cells #[nv, .slice (some ⟨g1, 0, none⟩) (n1 + 16) e1, .slice (some ⟨g2, 0, none⟩) (n2 + 16) e2, .slice (some ⟨g3, 0, none⟩) (n3 + 16) e3, .slice (some ⟨g4, 0, none⟩) (n4 + 16) e4] 26)).alloc (.cells #[nu, .slice x1 n1 d1, .slice x2 n2 d2, .slice x3 n3 d3, .slice x4 n4 d4] 26)).alloc (.cells #[.string ⟨#[]⟩, .slice none 0 0, .slice none 0 0, .slice none 0 0, .slice none 0 0] 26) = W0 at *
  refine wp_region_said 25 (fun i u v => match i with
      | 0 => v = .pointer (some ⟨w.heap.size, 1, none⟩)
      | 1 => v = .slice (some ⟨g1, 0, none⟩) (n1 + 16) e1
      | 2 => v = .pointer (some ⟨w.heap.size + 1, 1, none⟩)
      | 3 => v = .slice x1 n1 d1
      | 4 => v = .int .i64 (n1 : Int)
      | 5 => v = .slice (some ⟨g1, n1 * 3, none⟩) 16 (e1 - n1)
      | 6 => v = .pointer (some ⟨w.heap.size, 2, none⟩)
      | 7 => v = .slice (some ⟨g2, 0, none⟩) (n2 + 16) e2
      | 8 => v = .pointer (some ⟨w.heap.size + 1, 2, none⟩)
      | 9 => v = .slice x2 n2 d2
      | 10 => v = .int .i64 (n2 : Int)
      | 11 => v = .slice (some ⟨g2, n2 * 5, none⟩) 16 (e2 - n2)
      | 12 => v = .pointer (some ⟨w.heap.size, 3, none⟩)
      | 13 => v = .slice (some ⟨g3, 0, none⟩) (n3 + 16) e3
      | 14 => v = .pointer (some ⟨w.heap.size + 1, 3, none⟩)
      | 15 => v = .slice x3 n3 d3
      | 16 => v = .int .i64 (n3 : Int)
      | 17 => v = .slice (some ⟨g3, n3 * 3, none⟩) 16 (e3 - n3)
      | 18 => v = .pointer (some ⟨w.heap.size, 4, none⟩)
      | 19 => v = .slice (some ⟨g4, 0, none⟩) (n4 + 16) e4
      | 20 => v = .pointer (some ⟨w.heap.size + 1, 4, none⟩)
      | 21 => v = .slice x4 n4 d4
      | 22 => v = .int .i64 (n4 : Int)
      | 23 => v = .slice (some ⟨g4, n4 * 3, none⟩) 16 (e4 - n4)
      | 24 => v = .agg #[.string ⟨#[]⟩, .slice (some ⟨g1, n1 * 3, none⟩) 16 (e1 - n1), .slice (some ⟨g2, n2 * 5, none⟩) 16 (e2 - n2), .slice (some ⟨g3, n3 * 3, none⟩) 16 (e3 - n3), .slice (some ⟨g4, n4 * 3, none⟩) 16 (e4 - n4)]
      | _ => True) (by kernel_rfl) (by kernel_rfl) (by kernel_rfl) (by kernel_rfl) ?_ ?_ ?_
  · intro i w v w' h hb
    match i, h with
    | 0, h => exact h
    | 1, h => exact h
    | 2, h => exact h
    | 3, h => exact h
    | 4, h => exact h
    | 5, h => exact h
    | 6, h => exact h
    | 7, h => exact h
    | 8, h => exact h
    | 9, h => exact h
    | 10, h => exact h
    | 11, h => exact h
    | 12, h => exact h
    | 13, h => exact h
    | 14, h => exact h
    | 15, h => exact h
    | 16, h => exact h
    | 17, h => exact h
    | 18, h => exact h
    | 19, h => exact h
    | 20, h => exact h
    | 21, h => exact h
    | 22, h => exact h
    | 23, h => exact h
    | 24, h => exact h
    | _ + 25, _ => trivial
  · intro i o ρ w' hi ho hb hc hf hfr hdep
    have k1 := cell_keep hb y1
    have k2 := cell_keep hb y2
    have k3 := cell_keep hb y3
    have k4 := cell_keep hb y4
    have m1 := cell_keep hb z1
    have m2 := cell_keep hb z2
    have m3 := cell_keep hb z3
    have m4 := cell_keep hb z4
    match i, hi with
    | 0, _ =>
      simp only [gTA, gCZ, gSI] at ho
      subst ho
      have ts : ρ (.tmp 2) = .pointer (some ⟨w.heap.size, 0, none⟩) := hfr 2 (by kernel_rfl)
      simp [go_sem, ts]
      exact ⟨Below.refl _ _, rfl⟩
    | 1, _ =>
      simp only [gTA, gCZ, gCS, gSI] at ho
      subst ho
      have ts : ρ (.tmp 5) = .pointer (some ⟨w.heap.size, 1, none⟩) := hdep 0 5 (by kernel_rfl) (by kernel_rfl)
      simp [go_sem, ts, k1]
      exact ⟨Below.refl _ _, rfl⟩
    | 2, _ =>
      simp only [gTA, gCZ, gCS, gSI] at ho
      subst ho
      have ts : ρ (.tmp 3) = .pointer (some ⟨w.heap.size + 1, 0, none⟩) := hfr 3 (by kernel_rfl)
      simp [go_sem, ts]
      exact ⟨Below.refl _ _, rfl⟩
    | 3, _ =>
      simp only [gTA, gCZ, gCS, gSI] at ho
      subst ho
      have ts : ρ (.tmp 7) = .pointer (some ⟨w.heap.size + 1, 1, none⟩) := hdep 2 7 (by kernel_rfl) (by kernel_rfl)
      simp [go_sem, ts, m1]
      exact ⟨Below.refl _ _, rfl⟩
    | 4, _ =>
      simp only [gTA, gCZ, gCS, gSI] at ho
      subst ho
      have t0 : ρ (.tmp 8) = .slice x1 n1 d1 := hdep 3 8 (by kernel_rfl) (by kernel_rfl)
      simp [go_sem, t0]
      exact ⟨Below.refl _ _, rfl⟩
    | 5, _ =>
      simp only [gTA, gCZ, gCS, gSI] at ho
      subst ho
      have t0 : ρ (.tmp 6) = .slice (some ⟨g1, 0, none⟩) (n1 + 16) e1 := hdep 1 6 (by kernel_rfl) (by kernel_rfl)
      have t1 : ρ (.tmp 9) = .int .i64 (n1 : Int) := hdep 4 9 (by kernel_rfl) (by kernel_rfl)
      simp [go_sem, Instr.slice, Instr.sliceBounds, Instr.sliceBound, t0, t1, r1]
      exact ⟨Below.refl _ _, rfl⟩
    | 6, _ =>
      simp only [gTA, gCZ, gCS, gSI] at ho
      subst ho
      have ts : ρ (.tmp 2) = .pointer (some ⟨w.heap.size, 0, none⟩) := hfr 2 (by kernel_rfl)
      simp [go_sem, ts]
      exact ⟨Below.refl _ _, rfl⟩
    | 7, _ =>
      simp only [gTA, gCZ, gCS, gSI] at ho
      subst ho
      have ts : ρ (.tmp 11) = .pointer (some ⟨w.heap.size, 2, none⟩) := hdep 6 11 (by kernel_rfl) (by kernel_rfl)
      simp [go_sem, ts, k2]
      exact ⟨Below.refl _ _, rfl⟩
    | 8, _ =>
      simp only [gTA, gCZ, gCS, gSI] at ho
      subst ho
      have ts : ρ (.tmp 3) = .pointer (some ⟨w.heap.size + 1, 0, none⟩) := hfr 3 (by kernel_rfl)
      simp [go_sem, ts]
      exact ⟨Below.refl _ _, rfl⟩
    | 9, _ =>
      simp only [gTA, gCZ, gCS, gSI] at ho
      subst ho
      have ts : ρ (.tmp 13) = .pointer (some ⟨w.heap.size + 1, 2, none⟩) := hdep 8 13 (by kernel_rfl) (by kernel_rfl)
      simp [go_sem, ts, m2]
      exact ⟨Below.refl _ _, rfl⟩
    | 10, _ =>
      simp only [gTA, gCZ, gCS, gSI] at ho
      subst ho
      have t0 : ρ (.tmp 14) = .slice x2 n2 d2 := hdep 9 14 (by kernel_rfl) (by kernel_rfl)
      simp [go_sem, t0]
      exact ⟨Below.refl _ _, rfl⟩
    | 11, _ =>
      simp only [gTA, gCZ, gCS, gSI] at ho
      subst ho
      have t0 : ρ (.tmp 12) = .slice (some ⟨g2, 0, none⟩) (n2 + 16) e2 := hdep 7 12 (by kernel_rfl) (by kernel_rfl)
      have t1 : ρ (.tmp 15) = .int .i64 (n2 : Int) := hdep 10 15 (by kernel_rfl) (by kernel_rfl)
      simp [go_sem, Instr.slice, Instr.sliceBounds, Instr.sliceBound, t0, t1, r2]
      exact ⟨Below.refl _ _, rfl⟩
    | 12, _ =>
      simp only [gTA, gCZ, gCS, gSI] at ho
      subst ho
      have ts : ρ (.tmp 2) = .pointer (some ⟨w.heap.size, 0, none⟩) := hfr 2 (by kernel_rfl)
      simp [go_sem, ts]
      exact ⟨Below.refl _ _, rfl⟩
    | 13, _ =>
      simp only [gTA, gCZ, gCS, gSI] at ho
      subst ho
      have ts : ρ (.tmp 17) = .pointer (some ⟨w.heap.size, 3, none⟩) := hdep 12 17 (by kernel_rfl) (by kernel_rfl)
      simp [go_sem, ts, k3]
      exact ⟨Below.refl _ _, rfl⟩
    | 14, _ =>
      simp only [gTA, gCZ, gCS, gSI] at ho
      subst ho
      have ts : ρ (.tmp 3) = .pointer (some ⟨w.heap.size + 1, 0, none⟩) := hfr 3 (by kernel_rfl)
      simp [go_sem, ts]
      exact ⟨Below.refl _ _, rfl⟩
    | 15, _ =>
      simp only [gTA, gCZ, gCS, gSI] at ho
      subst ho
      have ts : ρ (.tmp 19) = .pointer (some ⟨w.heap.size + 1, 3, none⟩) := hdep 14 19 (by kernel_rfl) (by kernel_rfl)
      simp [go_sem, ts, m3]
      exact ⟨Below.refl _ _, rfl⟩
    | 16, _ =>
      simp only [gTA, gCZ, gCS, gSI] at ho
      subst ho
      have t0 : ρ (.tmp 20) = .slice x3 n3 d3 := hdep 15 20 (by kernel_rfl) (by kernel_rfl)
      simp [go_sem, t0]
      exact ⟨Below.refl _ _, rfl⟩
    | 17, _ =>
      simp only [gTA, gCZ, gCS, gSI] at ho
      subst ho
      have t0 : ρ (.tmp 18) = .slice (some ⟨g3, 0, none⟩) (n3 + 16) e3 := hdep 13 18 (by kernel_rfl) (by kernel_rfl)
      have t1 : ρ (.tmp 21) = .int .i64 (n3 : Int) := hdep 16 21 (by kernel_rfl) (by kernel_rfl)
      simp [go_sem, Instr.slice, Instr.sliceBounds, Instr.sliceBound, t0, t1, r3]
      exact ⟨Below.refl _ _, rfl⟩
    | 18, _ =>
      simp only [gTA, gCZ, gCS, gSI] at ho
      subst ho
      have ts : ρ (.tmp 2) = .pointer (some ⟨w.heap.size, 0, none⟩) := hfr 2 (by kernel_rfl)
      simp [go_sem, ts]
      exact ⟨Below.refl _ _, rfl⟩
    | 19, _ =>
      simp only [gTA, gCZ, gCS, gSI] at ho
      subst ho
      have ts : ρ (.tmp 23) = .pointer (some ⟨w.heap.size, 4, none⟩) := hdep 18 23 (by kernel_rfl) (by kernel_rfl)
      simp [go_sem, ts, k4]
      exact ⟨Below.refl _ _, rfl⟩
    | 20, _ =>
      simp only [gTA, gCZ, gCS, gSI] at ho
      subst ho
      have ts : ρ (.tmp 3) = .pointer (some ⟨w.heap.size + 1, 0, none⟩) := hfr 3 (by kernel_rfl)
      simp [go_sem, ts]
      exact ⟨Below.refl _ _, rfl⟩
    | 21, _ =>
      simp only [gTA, gCZ, gCS, gSI] at ho
      subst ho
      have ts : ρ (.tmp 25) = .pointer (some ⟨w.heap.size + 1, 4, none⟩) := hdep 20 25 (by kernel_rfl) (by kernel_rfl)
      simp [go_sem, ts, m4]
      exact ⟨Below.refl _ _, rfl⟩
    | 22, _ =>
      simp only [gTA, gCZ, gCS, gSI] at ho
      subst ho
      have t0 : ρ (.tmp 26) = .slice x4 n4 d4 := hdep 21 26 (by kernel_rfl) (by kernel_rfl)
      simp [go_sem, t0]
      exact ⟨Below.refl _ _, rfl⟩
    | 23, _ =>
      simp only [gTA, gCZ, gCS, gSI] at ho
      subst ho
      have t0 : ρ (.tmp 24) = .slice (some ⟨g4, 0, none⟩) (n4 + 16) e4 := hdep 19 24 (by kernel_rfl) (by kernel_rfl)
      have t1 : ρ (.tmp 27) = .int .i64 (n4 : Int) := hdep 22 27 (by kernel_rfl) (by kernel_rfl)
      simp [go_sem, Instr.slice, Instr.sliceBounds, Instr.sliceBound, t0, t1, r4]
      exact ⟨Below.refl _ _, rfl⟩
    | 24, _ =>
      simp only [gTA, gCZ, gCS, gSI] at ho
      subst ho
      have t1 : ρ (.tmp 10) = .slice (some ⟨g1, n1 * 3, none⟩) 16 (e1 - n1) := hdep 5 10 (by kernel_rfl) (by kernel_rfl)
      have t2 : ρ (.tmp 16) = .slice (some ⟨g2, n2 * 5, none⟩) 16 (e2 - n2) := hdep 11 16 (by kernel_rfl) (by kernel_rfl)
      have t3 : ρ (.tmp 22) = .slice (some ⟨g3, n3 * 3, none⟩) 16 (e3 - n3) := hdep 17 22 (by kernel_rfl) (by kernel_rfl)
      have t4 : ρ (.tmp 28) = .slice (some ⟨g4, n4 * 3, none⟩) 16 (e4 - n4) := hdep 23 28 (by kernel_rfl) (by kernel_rfl)
      simp [go_sem, t1, t2, t3, t4]
      exact ⟨Below.refl _ _, rfl⟩
    | k + 25, h => exact absurd h (by omega)
  · intro V w9 q9 hS
    have e_0 : V 0 = .pointer (some ⟨w.heap.size, 1, none⟩) := hS 0 (by decide)
    have e_1 : V 1 = .slice (some ⟨g1, 0, none⟩) (n1 + 16) e1 := hS 1 (by decide)
    have e_2 : V 2 = .pointer (some ⟨w.heap.size + 1, 1, none⟩) := hS 2 (by decide)
    have e_3 : V 3 = .slice x1 n1 d1 := hS 3 (by decide)
    have e_4 : V 4 = .int .i64 (n1 : Int) := hS 4 (by decide)
    have e_5 : V 5 = .slice (some ⟨g1, n1 * 3, none⟩) 16 (e1 - n1) := hS 5 (by decide)
    have e_6 : V 6 = .pointer (some ⟨w.heap.size, 2, none⟩) := hS 6 (by decide)
    have e_7 : V 7 = .slice (some ⟨g2, 0, none⟩) (n2 + 16) e2 := hS 7 (by decide)
    have e_8 : V 8 = .pointer (some ⟨w.heap.size + 1, 2, none⟩) := hS 8 (by decide)
    have e_9 : V 9 = .slice x2 n2 d2 := hS 9 (by decide)
    have e_10 : V 10 = .int .i64 (n2 : Int) := hS 10 (by decide)
    have e_11 : V 11 = .slice (some ⟨g2, n2 * 5, none⟩) 16 (e2 - n2) := hS 11 (by decide)
    have e_12 : V 12 = .pointer (some ⟨w.heap.size, 3, none⟩) := hS 12 (by decide)
    have e_13 : V 13 = .slice (some ⟨g3, 0, none⟩) (n3 + 16) e3 := hS 13 (by decide)
    have e_14 : V 14 = .pointer (some ⟨w.heap.size + 1, 3, none⟩) := hS 14 (by decide)
    have e_15 : V 15 = .slice x3 n3 d3 := hS 15 (by decide)
    have e_16 : V 16 = .int .i64 (n3 : Int) := hS 16 (by decide)
    have e_17 : V 17 = .slice (some ⟨g3, n3 * 3, none⟩) 16 (e3 - n3) := hS 17 (by decide)
    have e_18 : V 18 = .pointer (some ⟨w.heap.size, 4, none⟩) := hS 18 (by decide)
    have e_19 : V 19 = .slice (some ⟨g4, 0, none⟩) (n4 + 16) e4 := hS 19 (by decide)
    have e_20 : V 20 = .pointer (some ⟨w.heap.size + 1, 4, none⟩) := hS 20 (by decide)
    have e_21 : V 21 = .slice x4 n4 d4 := hS 21 (by decide)
    have e_22 : V 22 = .int .i64 (n4 : Int) := hS 22 (by decide)
    have e_23 : V 23 = .slice (some ⟨g4, n4 * 3, none⟩) 16 (e4 - n4) := hS 23 (by decide)
    have e_24 : V 24 = .agg #[.string ⟨#[]⟩, .slice (some ⟨g1, n1 * 3, none⟩) 16 (e1 - n1), .slice (some ⟨g2, n2 * 5, none⟩) 16 (e2 - n2), .slice (some ⟨g3, n3 * 3, none⟩) 16 (e3 - n3), .slice (some ⟨g4, n4 * 3, none⟩) 16 (e4 - n4)] := hS 24 (by decide)
    simp only [List.drop_succ_cons, List.drop_zero, List.take_succ_cons, List.take_zero, puts, e_0, e_1, e_2, e_3, e_4, e_5, e_6, e_7, e_8, e_9, e_10, e_11, e_12, e_13, e_14, e_15, e_16, e_17, e_18, e_19, e_20, e_21, e_22, e_23, e_24]
    clear hS e_0 e_1 e_2 e_3 e_4 e_5 e_6 e_7 e_8 e_9 e_10 e_11 e_12 e_13 e_14 e_15 e_16 e_17 e_18 e_19 e_20 e_21 e_22 e_23 e_24 V
    simp only [Act.put, List.setIfInBounds_toArray, List.set_cons_zero, List.set_cons_succ]
    have RB9 := hiddenG (RB.out.below q9)
    have B9 := hiddenG (BA.out.trans (q9.mono BA.out.size))
    clear q9
    go_wp2_with (refine wpList_storeW _ rfl 26 (.tmp 4) (.tmp 29) rfl rfl (w.heap.size + 2) 26 _ _ rfl rfl RB9.out sizG rfl rfl ?_; intro w8 hN hU; have N8 := hiddenG hN; have U8 := hiddenG hU; clear hN hU)
    have t0 : w8.cell? ⟨w.heap.size + 2, 0, none⟩ = some (.string ⟨#[]⟩) := N8.out.cell rfl
    have t1 : w8.cell? ⟨w.heap.size + 2, 1, none⟩ = some (.slice (some ⟨g1, n1 * 3, none⟩) 16 (e1 - n1)) := N8.out.cell rfl
    have t2 : w8.cell? ⟨w.heap.size + 2, 2, none⟩ = some (.slice (some ⟨g2, n2 * 5, none⟩) 16 (e2 - n2)) := N8.out.cell rfl
    have t3 : w8.cell? ⟨w.heap.size + 2, 3, none⟩ = some (.slice (some ⟨g3, n3 * 3, none⟩) 16 (e3 - n3)) := N8.out.cell rfl
    have t4 : w8.cell? ⟨w.heap.size + 2, 4, none⟩ = some (.slice (some ⟨g4, n4 * 3, none⟩) 16 (e4 - n4)) := N8.out.cell rfl
    refine bodyPost_ret (v := .agg #[.string ⟨#[]⟩, .slice (some ⟨g1, n1 * 3, none⟩) 16 (e1 - n1), .slice (some ⟨g2, n2 * 5, none⟩) 16 (e2 - n2), .slice (some ⟨g3, n3 * 3, none⟩) 16 (e3 - n3), .slice (some ⟨g4, n4 * 3, none⟩) 16 (e4 - n4)]) (by simp [results, Tryz.results35, go_sem, t0, t1, t2, t3, t4]) rfl ?_
    exact ⟨rfl, B9.out.trans (U8.out.below (Nat.le_trans (Nat.le_succ _) (Nat.le_succ _)) B9.out.size)⟩
theorem wpList_append_rows (w : World) {ops : Array Oper} {rest : List Oper} {o : Oper} {a : Act} {Q : Exit → Act → World → Prop} (hgd : o.guard = none) (s x : Operand)
    (ho : o.op = .call { callee := .builtin .append, args := #[s, x], argTypes := #[67, 67] }) (B B2 : Nat) (v u : Value) (n m : Nat) (xs ys : List Value) (hs : a.eval s = v) (hv : w.ownsRow B 60 1 v n xs) (hx : a.eval x = u) (hu : w.ownsRow B2 60 1 u m ys) (h1 : ∀ y ∈ ys, y.oneCell' = true) (hn : n + m ≤ 4000) (hB : B ≤ w.heap.size)
    (h : ∀ v' w', w'.ownsRow B 60 1 v' (n + m) (xs ++ ys) → Below B w w' → wpList Tryz.prog ops Q rest (a.put o.dst v') w') : wpList Tryz.prog ops Q (o :: rest) a w := by
  obtain ⟨i0, hi, hz0, hz1, hz2⟩ := info_parts Tryz.info60
  have hul := hu.1
  rcases hu.2 with ⟨e1, e0⟩ | ⟨g, cap, cur, e1, -⟩
  · subst e1
    subst e0
    have ey : ys = [] := List.eq_nil_of_length_eq_zero (by omega)
    subst ey
    refine wpList_append_own_none hgd s x 67 ho B 60 i0 1 Tryz.underlying67 hi v n xs hs hv hx ?_
    exact h v w (by rw [List.append_nil]; exact hv) (Below.refl _ _)
  · subst e1
    refine wpList_append_own w hgd s x 67 ho B 60 i0 (.slice none 0 0) 1 24 Tryz.underlying67 hi hz0 hz1 hz2 rfl (by decide) v n xs hs hv ⟨g, 0, none⟩ m cap ys hx hul (fun j y hj => World.ownsRow.cells hu rfl j y hj) h1 (by unfold maxLen; omega) (by omega) hB ?_
    intro v' w' hown hg _
    exact h v' w' hown (below_grownO (Below.refl _ _) hg (own_row hv) hB)
/-- The marks in the old places of a grown graph. -/
theorem mk_old {w wr : World} {B : Nat} {x1 x2 x3 x4 : Option Addr} {n1 n2 n3 n4 d1 d2 d3 d4 t : Nat} (h1 : w.ownsRow B 62 3 (.slice x1 n1 d1) n1 (repX n1 (mA t))) (h2 : w.ownsRow B 65 5 (.slice x2 n2 d2) n2 (repX n2 (mE t))) (h3 : w.ownsRow B 81 3 (.slice x3 n3 d3) n3 (repX n3 (mP t 1))) (h4 : w.ownsRow B 81 3 (.slice x4 n4 d4) n4 (repX n4 (mP t 2)))
    (q1 : ∀ g, (Value.slice x1 n1 d1).ownBlock = some g → ∀ j, j < (repX n1 (mA t)).length → wr.cell? ⟨g, j, none⟩ = (repX n1 (mA t))[j]?) (q2 : ∀ g, (Value.slice x2 n2 d2).ownBlock = some g → ∀ j, j < (repX n2 (mE t)).length → wr.cell? ⟨g, j, none⟩ = (repX n2 (mE t))[j]?) (q3 : ∀ g, (Value.slice x3 n3 d3).ownBlock = some g → ∀ j, j < (repX n3 (mP t 1)).length → wr.cell? ⟨g, j, none⟩ = (repX n3 (mP t 1))[j]?) (q4 : ∀ g, (Value.slice x4 n4 d4).ownBlock = some g → ∀ j, j < (repX n4 (mP t 2)).length → wr.cell? ⟨g, j, none⟩ = (repX n4 (mP t 2))[j]?) : MkG wr x1 x2 x3 x4 n1 n2 n3 n4 t := by
  have go : ∀ {T s n d : Nat} {x : Option Addr} {m : List Value}, m.length = s → w.ownsRow B T s (.slice x n d) n (repX n m) → (∀ g, (Value.slice x n d).ownBlock = some g → ∀ j, j < (repX n m).length → wr.cell? ⟨g, j, none⟩ = (repX n m)[j]?) → ∀ j v, j < s → m[j]? = some v → MkR wr x n s j v := by
    intro T s n d x m hm h q j v hj hv k hk
    rcases h.2 with ⟨e1, e0⟩ | ⟨g, cap, cur, e1, -⟩
    · omega
    simp only [Value.slice.injEq] at e1
    obtain ⟨e1, -, -⟩ := e1
    refine ⟨g, 0, e1, ?_⟩
    have hks : (k + 1) * s ≤ n * s := Nat.mul_le_mul_right s hk
    rw [Nat.succ_mul] at hks
    rw [Nat.zero_add, q g (by rw [e1]; rfl) _ (by rw [repX_len hm]; omega), repX_at hm hk hj]
    exact hv
  exact ⟨go (s := 3) rfl h1 q1 1 _ (by decide) rfl, go (s := 5) rfl h2 q2 0 _ (by decide) rfl, go (s := 3) rfl h3 q3 1 _ (by decide) rfl, go (s := 3) rfl h3 q3 2 _ (by decide) rfl, go (s := 3) rfl h4 q4 1 _ (by decide) rfl, go (s := 3) rfl h4 q4 2 _ (by decide) rfl⟩
/-- The marks behind a row's old end. -/
theorem mk_row {wr : World} {B T s n e : Nat} {y : Option Addr} {O m : List Value} (hm : m.length = s) (r : wr.ownsRow B T s (.slice y (n + 16) e) (n + 16) (O ++ repX 16 m)) : ∃ g, y = some ⟨g, 0, none⟩ ∧ n + 16 ≤ e ∧ g < wr.heap.size ∧ ∀ j v, j < s → m[j]? = some v → MkR wr (some ⟨g, n * s, none⟩) 16 s j v := by
  have hl := r.1
  have hO : O.length = n * s := by rw [List.length_append, repX_len hm, Nat.add_mul] at hl; omega
  rcases id r.2 with ⟨e1, e0⟩ | ⟨g, cap, cur, e1, hg, hh, hcap⟩
  · omega
  have e2 := e1
  simp only [Value.slice.injEq] at e1
  obtain ⟨e1, -, e3⟩ := e1
  refine ⟨g, e1, ?_, own_lt r g (by rw [e1]; rfl), fun j v hj hv k hk => ⟨g, n * s, rfl, ?_⟩⟩
  · subst e1
    exact row_cap r (by omega)
  · subst e1
    have hks : (k + 1) * s ≤ 16 * s := Nat.mul_le_mul_right s hk
    rw [Nat.succ_mul] at hks
    have c := r.cellAt (n * s + k * s + j) (by rw [Nat.add_mul]; omega)
    rw [c, List.getElem?_append_right (by omega)]
    have ei : n * s + k * s + j - O.length = k * s + j := by omega
    rw [ei, repX_at hm hk hj]
    exact hv
/-- A graph's numbers as one list. -/
def elA (p : GA × Value) : El := (⟨0, [], [], p.1.params, ⟨[], 0, 0⟩, ⟨[], 0, 0⟩, 0⟩, p.2)
def elE (p : GE × Value) : El := (⟨0, [], [], p.1.start, ⟨[], 0, 0⟩, ⟨[], 0, 0⟩, 0⟩, p.2)
def elG (As : List (GA × Value)) (Es : List (GE × Value)) : List El := As.map elA ++ Es.map elE
theorem elG_snd (As : List (GA × Value)) (Es : List (GE × Value)) : (elG As Es).map Prod.snd = As.map Prod.snd ++ Es.map Prod.snd := by
  unfold elG
  rw [List.map_append, List.map_map, List.map_map]
  rfl
theorem elG_len (As : List (GA × Value)) (Es : List (GE × Value)) : (elG As Es).length = As.length + Es.length := by simp [elG]
theorem elG_own {B : Nat} {w : World} {v1 v2 v3 v4 : Value} {As : List (GA × Value)} {Es : List (GE × Value)} {Ps Os : List GP} (h : GOwn B w v1 v2 v3 v4 As Es Ps Os) : ∀ p ∈ elG As Es, Ints B w p.2 p.1.nums := by
  intro p hp
  rcases List.mem_append.1 hp with hp | hp
  · obtain ⟨q, hq, rfl⟩ := List.mem_map.1 hp
    exact h.n1 q hq
  · obtain ⟨q, hq, rfl⟩ := List.mem_map.1 hp
    exact h.n2 q hq
theorem elG_pair {B : Nat} {w : World} {v1 v2 v3 v4 : Value} {As : List (GA × Value)} {Es : List (GE × Value)} {Ps Os : List GP} (h : GOwn B w v1 v2 v3 v4 As Es Ps Os) : (elG As Es).Pairwise (fun p q => ∀ k, p.2.ownBlock = some k → q.2.ownBlock ≠ some k) := by
  have q := h.ap
  rw [← elG_snd, List.pairwise_map] at q
  exact q
theorem elG_two {B B2 : Nat} {w : World} {v1 v2 v3 v4 u1 u2 u3 u4 : Value} {As Bs : List (GA × Value)} {Es Fs : List (GE × Value)} {Ps Os Qs Rs : List GP} (h1 : GOwn B w v1 v2 v3 v4 As Es Ps Os) (h2 : GOwn B2 w u1 u2 u3 u4 Bs Fs Qs Rs) (hb : B ≤ B2) (hlt : ∀ p ∈ elG As Es, ∀ k, p.2.ownBlock = some k → k < B2) (hs : ∀ p ∈ elG As Es ++ elG Bs Fs, p.1.nums.length ≤ 17592186043904) : Rws B w (elG As Es ++ elG Bs Fs) := by
  refine ⟨fun p hp => ?_, ?_, hs⟩
  · rcases List.mem_append.1 hp with hp | hp
    · exact elG_own h1 p hp
    · exact (elG_own h2 p hp).mono hb
  · rw [List.pairwise_append]
    exact ⟨elG_pair h1, elG_pair h2, fun p hp q hq k e e2 => by have := hlt p hp k e; have := own_row (elG_own h2 q hq) k e2; omega⟩
theorem elG_slice {B : Nat} {w : World} {v1 v2 v3 v4 : Value} {As : List (GA × Value)} {Es : List (GE × Value)} {Ps Os : List GP} (h : GOwn B w v1 v2 v3 v4 As Es Ps Os) : (∀ p ∈ As, ∃ a n c, p.2 = .slice a n c) ∧ (∀ p ∈ Es, ∃ a n c, p.2 = .slice a n c) ∧ ∀ y ∈ As.map Prod.snd ++ Es.map Prod.snd, y.oneCell' = true := by
  have f1 : ∀ p ∈ As, ∃ a n c, p.2 = .slice a n c := fun p hp => by obtain ⟨a, c, e⟩ := own_slice (h.n1 p hp); exact ⟨a, _, c, e⟩
  have f2 : ∀ p ∈ Es, ∃ a n c, p.2 = .slice a n c := fun p hp => by obtain ⟨a, c, e⟩ := own_slice (h.n2 p hp); exact ⟨a, _, c, e⟩
  refine ⟨f1, f2, fun y hy => ?_⟩
  rcases List.mem_append.1 hy with hy | hy
  · obtain ⟨q, hq, rfl⟩ := List.mem_map.1 hy
    obtain ⟨a, n, c, e⟩ := f1 q hq
    rw [e]; rfl
  · obtain ⟨q, hq, rfl⟩ := List.mem_map.1 hy
    obtain ⟨a, n, c, e⟩ := f2 q hq
    rw [e]; rfl
/-- Two graphs' boxes and own rows; the first one's lie below B2, the second one's from there on. -/
structure TwoR (w0 B1 B2 : Nat) (gv hv : Array Value) (v1 v2 v3 v4 u1 u2 u3 u4 : Value) (n1 n2 n3 n4 m1 m2 m3 m4 : Nat) (X1 X2 X3 X4 Y1 Y2 Y3 Y4 : List Value) (V : World) : Prop where
  ba : BlkA 26 w0 V gv
  bb : BlkA 26 (w0 + 1) V hv
  r1 : V.ownsRow B1 62 3 v1 n1 X1
  r2 : V.ownsRow B1 65 5 v2 n2 X2
  r3 : V.ownsRow B1 81 3 v3 n3 X3
  r4 : V.ownsRow B1 81 3 v4 n4 X4
  s1 : V.ownsRow B2 62 3 u1 m1 Y1
  s2 : V.ownsRow B2 65 5 u2 m2 Y2
  s3 : V.ownsRow B2 81 3 u3 m3 Y3
  s4 : V.ownsRow B2 81 3 u4 m4 Y4
  n34 : NB v3 v4
  m34 : NB u3 u4
  lo : ∀ k, (v1.ownBlock = some k ∨ v2.ownBlock = some k ∨ v3.ownBlock = some k ∨ v4.ownBlock = some k) → k < B2
  hi : ∀ k, (u1.ownBlock = some k ∨ u2.ownBlock = some k ∨ u3.ownBlock = some k ∨ u4.ownBlock = some k) → k < w0
  hb : B1 ≤ B2
  hB : B2 ≤ w0
  big : w0 + 2 ≤ V.heap.size
theorem TwoR.up {w0 B1 B2 gv hv v1 v2 v3 v4 u1 u2 u3 u4 n1 n2 n3 n4 m1 m2 m3 m4 X1 X2 X3 X4 Y1 Y2 Y3 Y4} {V : World} (h : TwoR w0 B1 B2 gv hv v1 v2 v3 v4 u1 u2 u3 u4 n1 n2 n3 n4 m1 m2 m3 m4 X1 X2 X3 X4 Y1 Y2 Y3 Y4 V) : ∀ k, (u1.ownBlock = some k ∨ u2.ownBlock = some k ∨ u3.ownBlock = some k ∨ u4.ownBlock = some k) → B2 ≤ k := fun k e => by
  rcases e with e | e | e | e
  · exact own_row h.s1 k e
  · exact own_row h.s2 k e
  · exact own_row h.s3 k e
  · exact own_row h.s4 k e
theorem TwoR.ne {w0 B1 B2 gv hv v1 v2 v3 v4 u1 u2 u3 u4 n1 n2 n3 n4 m1 m2 m3 m4 X1 X2 X3 X4 Y1 Y2 Y3 Y4} {V : World} (h : TwoR w0 B1 B2 gv hv v1 v2 v3 v4 u1 u2 u3 u4 n1 n2 n3 n4 m1 m2 m3 m4 X1 X2 X3 X4 Y1 Y2 Y3 Y4 V) {k : Nat} (e : v1.ownBlock = some k ∨ v2.ownBlock = some k ∨ v3.ownBlock = some k ∨ v4.ownBlock = some k) (e2 : u1.ownBlock = some k ∨ u2.ownBlock = some k ∨ u3.ownBlock = some k ∨ u4.ownBlock = some k) : False := by
  have := h.lo k e
  have := h.up k e2
  omega
theorem TwoR.later {w0 B1 B2 gv hv v1 v2 v3 v4 u1 u2 u3 u4 n1 n2 n3 n4 m1 m2 m3 m4 X1 X2 X3 X4 Y1 Y2 Y3 Y4} {V V' : World} (h : TwoR w0 B1 B2 gv hv v1 v2 v3 v4 u1 u2 u3 u4 n1 n2 n3 n4 m1 m2 m3 m4 X1 X2 X3 X4 Y1 Y2 Y3 Y4 V) (hb : Below V.heap.size V V') : TwoR w0 B1 B2 gv hv v1 v2 v3 v4 u1 u2 u3 u4 n1 n2 n3 n4 m1 m2 m3 m4 X1 X2 X3 X4 Y1 Y2 Y3 Y4 V' :=
  ⟨h.ba.below hb, h.bb.below hb, owns_below h.r1 hb, owns_below h.r2 hb, owns_below h.r3 hb, owns_below h.r4 hb, owns_below h.s1 hb, owns_below h.s2 hb, owns_below h.s3 hb, owns_below h.s4 hb, h.n34, h.m34, h.lo, h.hi, h.hb, h.hB, Nat.le_trans h.big hb.size⟩
theorem TwoR.keep {w0 B1 B2 gv hv v1 v2 v3 v4 u1 u2 u3 u4 n1 n2 n3 n4 m1 m2 m3 m4 X1 X2 X3 X4 Y1 Y2 Y3 Y4} {V V' : World} (h : TwoR w0 B1 B2 gv hv v1 v2 v3 v4 u1 u2 u3 u4 n1 n2 n3 n4 m1 m2 m3 m4 X1 X2 X3 X4 Y1 Y2 Y3 Y4 V) (hs : V.heap.size ≤ V'.heap.size) (hk : ∀ k, (k = w0 ∨ k = w0 + 1 ∨ (v1.ownBlock = some k ∨ v2.ownBlock = some k ∨ v3.ownBlock = some k ∨ v4.ownBlock = some k) ∨ (u1.ownBlock = some k ∨ u2.ownBlock = some k ∨ u3.ownBlock = some k ∨ u4.ownBlock = some k)) → V'.heap[k]? = V.heap[k]?) : TwoR w0 B1 B2 gv hv v1 v2 v3 v4 u1 u2 u3 u4 n1 n2 n3 n4 m1 m2 m3 m4 X1 X2 X3 X4 Y1 Y2 Y3 Y4 V' :=
  ⟨h.ba.keep (hk _ (.inl rfl)), h.bb.keep (hk _ (.inr (.inl rfl))), ownR_keep h.r1 (fun k e => hk k (.inr (.inr (.inl (.inl e))))), ownR_keep h.r2 (fun k e => hk k (.inr (.inr (.inl (.inr (.inl e)))))), ownR_keep h.r3 (fun k e => hk k (.inr (.inr (.inl (.inr (.inr (.inl e))))))), ownR_keep h.r4 (fun k e => hk k (.inr (.inr (.inl (.inr (.inr (.inr e))))))), ownR_keep h.s1 (fun k e => hk k (.inr (.inr (.inr (.inl e))))), ownR_keep h.s2 (fun k e => hk k (.inr (.inr (.inr (.inr (.inl e)))))), ownR_keep h.s3 (fun k e => hk k (.inr (.inr (.inr (.inr (.inr (.inl e))))))), ownR_keep h.s4 (fun k e => hk k (.inr (.inr (.inr (.inr (.inr (.inr e))))))), h.n34, h.m34, h.lo, h.hi, h.hb, h.hB, Nat.le_trans h.big hs⟩
/-- Marks are written into the first one. -/
theorem TwoR.wr1 {w0 B1 B2 gv hv v1 v2 v3 v4 u1 u2 u3 u4 n1 n2 n3 n4 m1 m2 m3 m4 X1 X2 X3 X4 Y1 Y2 Y3 Y4} {V V' : World} {bx : Array Value} {X1' X2' X3' X4' : List Value} (h : TwoR w0 B1 B2 gv hv v1 v2 v3 v4 u1 u2 u3 u4 n1 n2 n3 n4 m1 m2 m3 m4 X1 X2 X3 X4 Y1 Y2 Y3 Y4 V) (hw : WrS V B1 bx v1 v2 v3 v4 n1 n2 n3 n4 X1' X2' X3' X4' V') : TwoR w0 B1 B2 gv hv v1 v2 v3 v4 u1 u2 u3 u4 n1 n2 n3 n4 m1 m2 m3 m4 X1' X2' X3' X4' Y1 Y2 Y3 Y4 V' := by
  have hB := h.hB
  have hg := h.big
  have fr : ∀ k, k < V.heap.size → B2 ≤ k → V'.heap[k]? = V.heap[k]? := fun k hk hb => hw.fr k hk (fun e => by have := h.lo k (.inl e); omega) (fun e => by have := h.lo k (.inr (.inl e)); omega) (fun e => by have := h.lo k (.inr (.inr (.inl e))); omega) (fun e => by have := h.lo k (.inr (.inr (.inr e))); omega)
  exact ⟨h.ba.keep (fr _ (by omega) (by omega)), h.bb.keep (fr _ (by omega) (by omega)), hw.r1, hw.r2, hw.r3, hw.r4, ownR_keep h.s1 (fun k e => fr k (own_lt h.s1 k e) (own_row h.s1 k e)), ownR_keep h.s2 (fun k e => fr k (own_lt h.s2 k e) (own_row h.s2 k e)), ownR_keep h.s3 (fun k e => fr k (own_lt h.s3 k e) (own_row h.s3 k e)), ownR_keep h.s4 (fun k e => fr k (own_lt h.s4 k e) (own_row h.s4 k e)), h.n34, h.m34, h.lo, h.hi, h.hb, h.hB, Nat.le_trans h.big hw.bel.size⟩
/-- Marks are written into the second one. -/
theorem TwoR.wr2 {w0 B1 B2 gv hv v1 v2 v3 v4 u1 u2 u3 u4 n1 n2 n3 n4 m1 m2 m3 m4 X1 X2 X3 X4 Y1 Y2 Y3 Y4} {V V' : World} {bx : Array Value} {Y1' Y2' Y3' Y4' : List Value} (h : TwoR w0 B1 B2 gv hv v1 v2 v3 v4 u1 u2 u3 u4 n1 n2 n3 n4 m1 m2 m3 m4 X1 X2 X3 X4 Y1 Y2 Y3 Y4 V) (hw : WrS V B2 bx u1 u2 u3 u4 m1 m2 m3 m4 Y1' Y2' Y3' Y4' V') : TwoR w0 B1 B2 gv hv v1 v2 v3 v4 u1 u2 u3 u4 n1 n2 n3 n4 m1 m2 m3 m4 X1 X2 X3 X4 Y1' Y2' Y3' Y4' V' := by
  have hB := h.hB
  have hg := h.big
  have fr : ∀ k, k < V.heap.size → (k < B2 ∨ w0 ≤ k) → V'.heap[k]? = V.heap[k]? := fun k hk hb => hw.fr k hk (fun e => by have := h.up k (.inl e); have := h.hi k (.inl e); omega) (fun e => by have := h.up k (.inr (.inl e)); have := h.hi k (.inr (.inl e)); omega) (fun e => by have := h.up k (.inr (.inr (.inl e))); have := h.hi k (.inr (.inr (.inl e))); omega) (fun e => by have := h.up k (.inr (.inr (.inr e))); have := h.hi k (.inr (.inr (.inr e))); omega)
  exact ⟨h.ba.keep (fr _ (by omega) (by omega)), h.bb.keep (fr _ (by omega) (by omega)), ownR_keep h.r1 (fun k e => fr k (own_lt h.r1 k e) (.inl (h.lo k (.inl e)))), ownR_keep h.r2 (fun k e => fr k (own_lt h.r2 k e) (.inl (h.lo k (.inr (.inl e))))), ownR_keep h.r3 (fun k e => fr k (own_lt h.r3 k e) (.inl (h.lo k (.inr (.inr (.inl e)))))), ownR_keep h.r4 (fun k e => fr k (own_lt h.r4 k e) (.inl (h.lo k (.inr (.inr (.inr e)))))), hw.r1, hw.r2, hw.r3, hw.r4, h.n34, h.m34, h.lo, h.hi, h.hb, h.hB, Nat.le_trans h.big hw.bel.size⟩
/-- The blocks of four addresses. -/
def InX (x1 x2 x3 x4 : Option Addr) (g : Nat) : Prop := ∃ m, x1 = some ⟨g, m, none⟩ ∨ x2 = some ⟨g, m, none⟩ ∨ x3 = some ⟨g, m, none⟩ ∨ x4 = some ⟨g, m, none⟩
/-- What a grown graph is: its old places, and what lies behind them. -/
structure Grown (wr : World) (top : Nat) (x1 x2 x3 x4 : Option Addr) (n1 n2 n3 n4 d1 d2 d3 d4 : Nat) (y1 y2 y3 y4 : Option Addr) (e1 e2 e3 e4 t s : Nat) (g1 g2 g3 g4 : Nat) : Prop where
  y1 : y1 = some ⟨g1, 0, none⟩
  e1 : n1 + 16 ≤ e1
  y2 : y2 = some ⟨g2, 0, none⟩
  e2 : n2 + 16 ≤ e2
  y3 : y3 = some ⟨g3, 0, none⟩
  e3 : n3 + 16 ≤ e3
  y4 : y4 = some ⟨g4, 0, none⟩
  e4 : n4 + 16 ≤ e4
  old : MkG wr x1 x2 x3 x4 n1 n2 n3 n4 t
  new : MkG wr (some ⟨g1, n1 * 3, none⟩) (some ⟨g2, n2 * 5, none⟩) (some ⟨g3, n3 * 3, none⟩) (some ⟨g4, n4 * 3, none⟩) 16 16 16 16 s
  lt : ∀ g, (InX x1 x2 x3 x4 g ∨ InX (some ⟨g1, n1 * 3, none⟩) (some ⟨g2, n2 * 5, none⟩) (some ⟨g3, n3 * 3, none⟩) (some ⟨g4, n4 * 3, none⟩) g) → g < wr.heap.size ∧ (((Value.slice x1 n1 d1).ownBlock = some g ∨ (Value.slice x2 n2 d2).ownBlock = some g ∨ (Value.slice x3 n3 d3).ownBlock = some g ∨ (Value.slice x4 n4 d4).ownBlock = some g) ∨ top ≤ g)
theorem Grown.keep {wr wr' : World} {top : Nat} {x1 x2 x3 x4 n1 n2 n3 n4 d1 d2 d3 d4 y1 y2 y3 y4 e1 e2 e3 e4 t s g1 g2 g3 g4} (h : Grown wr top x1 x2 x3 x4 n1 n2 n3 n4 d1 d2 d3 d4 y1 y2 y3 y4 e1 e2 e3 e4 t s g1 g2 g3 g4) (hs : wr.heap.size ≤ wr'.heap.size) (hk : ∀ k, k < wr.heap.size → (((Value.slice x1 n1 d1).ownBlock = some k ∨ (Value.slice x2 n2 d2).ownBlock = some k ∨ (Value.slice x3 n3 d3).ownBlock = some k ∨ (Value.slice x4 n4 d4).ownBlock = some k) ∨ top ≤ k) → wr'.heap[k]? = wr.heap[k]?) : Grown wr' top x1 x2 x3 x4 n1 n2 n3 n4 d1 d2 d3 d4 y1 y2 y3 y4 e1 e2 e3 e4 t s g1 g2 g3 g4 :=
  ⟨h.y1, h.e1, h.y2, h.e2, h.y3, h.e3, h.y4, h.e4, h.old.keep fun g m e => hk g (h.lt g (.inl ⟨m, e⟩)).1 (h.lt g (.inl ⟨m, e⟩)).2, h.new.keep fun g m e => hk g (h.lt g (.inr ⟨m, e⟩)).1 (h.lt g (.inr ⟨m, e⟩)).2, fun g e => ⟨Nat.lt_of_lt_of_le (h.lt g e).1 hs, (h.lt g e).2⟩⟩
set_option maxHeartbeats 1600000 in
theorem grown_of {w wr : World} {B : Nat} {x1 x2 x3 x4 : Option Addr} {n1 n2 n3 n4 d1 d2 d3 d4 t s : Nat} {y1 y2 y3 y4 : Option Addr} {e1 e2 e3 e4 : Nat} (h1 : w.ownsRow B 62 3 (.slice x1 n1 d1) n1 (repX n1 (mA t))) (h2 : w.ownsRow B 65 5 (.slice x2 n2 d2) n2 (repX n2 (mE t))) (h3 : w.ownsRow B 81 3 (.slice x3 n3 d3) n3 (repX n3 (mP t 1))) (h4 : w.ownsRow B 81 3 (.slice x4 n4 d4) n4 (repX n4 (mP t 2)))
    (hg : GrF w B (.slice x1 n1 d1) (.slice x2 n2 d2) (.slice x3 n3 d3) (.slice x4 n4 d4) (repX n1 (mA t)) (repX n2 (mE t)) (repX n3 (mP t 1)) (repX n4 (mP t 2)) (.slice y1 (n1 + 16) e1) (.slice y2 (n2 + 16) e2) (.slice y3 (n3 + 16) e3) (.slice y4 (n4 + 16) e4) (n1 + 16) (n2 + 16) (n3 + 16) (n4 + 16) ((repX n1 (mA t)) ++ repX 16 (mA s)) ((repX n2 (mE t)) ++ repX 16 (mE s)) ((repX n3 (mP t 1)) ++ repX 16 (mP s 1)) ((repX n4 (mP t 2)) ++ repX 16 (mP s 2)) wr) : ∃ g1 g2 g3 g4, Grown wr (w.heap.size + 2) x1 x2 x3 x4 n1 n2 n3 n4 d1 d2 d3 d4 y1 y2 y3 y4 e1 e2 e3 e4 t s g1 g2 g3 g4 := by
  obtain ⟨g1, hy1, he1, hl1, mk1⟩ := mk_row (m := (mA s)) (s := 3) rfl hg.r1
  obtain ⟨g2, hy2, he2, hl2, mk2⟩ := mk_row (m := (mE s)) (s := 5) rfl hg.r2
  obtain ⟨g3, hy3, he3, hl3, mk3⟩ := mk_row (m := (mP s 1)) (s := 3) rfl hg.r3
  obtain ⟨g4, hy4, he4, hl4, mk4⟩ := mk_row (m := (mP s 2)) (s := 3) rfl hg.r4
  have ob : ∀ {x : Option Addr} {n d g m : Nat}, x = some ⟨g, m, none⟩ → (Value.slice x n d).ownBlock = some g := fun e => by rw [e]; rfl
  have hs := hg.bel.size
  refine ⟨g1, g2, g3, g4, hy1, he1, hy2, he2, hy3, he3, hy4, he4, mk_old h1 h2 h3 h4 hg.q1 hg.q2 hg.q3 hg.q4, ⟨mk1 1 _ (by decide) rfl, mk2 0 _ (by decide) rfl, mk3 1 _ (by decide) rfl, mk3 2 _ (by decide) rfl, mk4 1 _ (by decide) rfl, mk4 2 _ (by decide) rfl⟩, fun g e => ?_⟩
  rcases e with ⟨m, e | e | e | e⟩ | ⟨m, e | e | e | e⟩
  · exact ⟨Nat.lt_of_lt_of_le (own_lt h1 g (ob e)) hs, .inl (.inl (ob e))⟩
  · exact ⟨Nat.lt_of_lt_of_le (own_lt h2 g (ob e)) hs, .inl (.inr (.inl (ob e)))⟩
  · exact ⟨Nat.lt_of_lt_of_le (own_lt h3 g (ob e)) hs, .inl (.inr (.inr (.inl (ob e))))⟩
  · exact ⟨Nat.lt_of_lt_of_le (own_lt h4 g (ob e)) hs, .inl (.inr (.inr (.inr (ob e))))⟩
  · cases e
    refine ⟨hl1, ?_⟩
    rcases hg.l1 g1 (by rw [hy1]; rfl) with q | q
    · exact .inl (.inl q)
    · exact .inr q
  · cases e
    refine ⟨hl2, ?_⟩
    rcases hg.l2 g2 (by rw [hy2]; rfl) with q | q
    · exact .inl (.inr (.inl q))
    · exact .inr q
  · cases e
    refine ⟨hl3, ?_⟩
    rcases hg.l3 g3 (by rw [hy3]; rfl) with q | q
    · exact .inl (.inr (.inr (.inl q)))
    · exact .inr q
  · cases e
    refine ⟨hl4, ?_⟩
    rcases hg.l4 g4 (by rw [hy4]; rfl) with q | q
    · exact .inl (.inr (.inr (.inr q)))
    · exact .inr q
set_option maxRecDepth 100000 in
set_option maxHeartbeats 32000000 in
theorem apartGraphs_any (B1 B2 : Nat) (s1 s2 : ByteArray) (x1 x2 x3 x4 z1 z2 z3 z4 : Option Addr) (d1 d2 d3 d4 f1 f2 f3 f4 : Nat) (As Bs : List (GA × Value)) (Es Fs : List (GE × Value)) (Ps Os Qs Rs : List GP) (w : World)
    (h1 : GOwn B1 w (.slice x1 As.length d1) (.slice x2 Es.length d2) (.slice x3 Ps.length d3) (.slice x4 Os.length d4) As Es Ps Os) (h2 : GOwn B2 w (.slice z1 Bs.length f1) (.slice z2 Fs.length f2) (.slice z3 Qs.length f3) (.slice z4 Rs.length f4) Bs Fs Qs Rs) (hb : B1 ≤ B2) (hB : B2 ≤ w.heap.size)
    (hlo : ∀ k, ((Value.slice x1 As.length d1).ownBlock = some k ∨ (Value.slice x2 Es.length d2).ownBlock = some k ∨ (Value.slice x3 Ps.length d3).ownBlock = some k ∨ (Value.slice x4 Os.length d4).ownBlock = some k) → k < B2) (hel : ∀ p ∈ elG As Es, ∀ k, p.2.ownBlock = some k → k < B2) (hsh : ∀ p ∈ elG As Es ++ elG Bs Fs, p.1.nums.length ≤ 17592186043904)
    (cA1 : As.length ≤ 200) (cB1 : Bs.length ≤ 200) (cA2 : Es.length ≤ 200) (cB2 : Fs.length ≤ 200) (cA3 : Ps.length ≤ 200) (cB3 : Qs.length ≤ 200) (cA4 : Os.length ≤ 200) (cB4 : Rs.length ≤ 200) :
    Calls Tryz.prog 14 #[.agg #[.string s1, .slice x1 As.length d1, .slice x2 Es.length d2, .slice x3 Ps.length d3, .slice x4 Os.length d4], .agg #[.string s2, .slice z1 Bs.length f1, .slice z2 Fs.length f2, .slice z3 Qs.length f3, .slice z4 Rs.length f4]] w (fun e w' => e = .returned (.bool true) ∧ Below B1 w w') := by
  obtain ⟨n1, hn1⟩ : ∃ n, As.length = n := ⟨_, rfl⟩
  obtain ⟨m1, hm1⟩ : ∃ n, Bs.length = n := ⟨_, rfl⟩
  obtain ⟨n2, hn2⟩ : ∃ n, Es.length = n := ⟨_, rfl⟩
  obtain ⟨m2, hm2⟩ : ∃ n, Fs.length = n := ⟨_, rfl⟩
  obtain ⟨n3, hn3⟩ : ∃ n, Ps.length = n := ⟨_, rfl⟩
  obtain ⟨m3, hm3⟩ : ∃ n, Qs.length = n := ⟨_, rfl⟩
  obtain ⟨n4, hn4⟩ : ∃ n, Os.length = n := ⟨_, rfl⟩
  obtain ⟨m4, hm4⟩ : ∃ n, Rs.length = n := ⟨_, rfl⟩
  have sl1 := elG_slice h1
  have sl2 := elG_slice h2
  have RW0 := elG_two h1 h2 hb hel hsh
  have q1 := h1.rw
  have q2 := h2.rw
  have IN1 : Hid (∀ U, Below w.heap.size w U → Calls Tryz.prog 30 #[.agg #[.string s1, .slice x1 As.length d1, .slice x2 Es.length d2, .slice x3 Ps.length d3, .slice x4 Os.length d4]] U (InnE U (As.length + Es.length) (As.map Prod.snd ++ Es.map Prod.snd))) := fun U hU => inner_any B1 _ _ _ x1 x2 d1 d2 As Es U (owns_below q1.r1 hU) (owns_below q1.r2 hU) sl1.1 sl1.2.1 (by omega) (by omega)
  have IN2 : Hid (∀ U, Below w.heap.size w U → Calls Tryz.prog 30 #[.agg #[.string s2, .slice z1 Bs.length f1, .slice z2 Fs.length f2, .slice z3 Qs.length f3, .slice z4 Rs.length f4]] U (InnE U (Bs.length + Fs.length) (Bs.map Prod.snd ++ Fs.map Prod.snd))) := fun U hU => inner_any B2 _ _ _ z1 z2 f1 f2 Bs Fs U (owns_below q2.r1 hU) (owns_below q2.r2 hU) sl2.1 sl2.2.1 (by omega) (by omega)
  have ba := (Below.refl w.heap.size w).alloc (Nat.le_refl _) (.cells #[.string s1, .slice x1 As.length d1, .slice x2 Es.length d2, .slice x3 Ps.length d3, .slice x4 Os.length d4] 26)
  have bb := (Below.refl _ _).alloc (Nat.le_refl _) (.cells #[.string s2, .slice z1 Bs.length f1, .slice z2 Fs.length f2, .slice z3 Qs.length f3, .slice z4 Rs.length f4] 26) (w := w.alloc (.cells #[.string s1, .slice x1 As.length d1, .slice x2 Es.length d2, .slice x3 Ps.length d3, .slice x4 Os.length d4] 26))
  have bc := ba.trans (bb.mono ba.size)
  have hz : w.heap.size + 2 ≤ ((w.alloc (.cells #[.string s1, .slice x1 As.length d1, .slice x2 Es.length d2, .slice x3 Ps.length d3, .slice x4 Os.length d4] 26)).alloc (.cells #[.string s2, .slice z1 Bs.length f1, .slice z2 Fs.length f2, .slice z3 Qs.length f3, .slice z4 Rs.length f4] 26)).heap.size := by rw [World.size_alloc, World.size_alloc]; omega
  have T0 : Hid (TwoR w.heap.size B1 B2 #[.string s1, .slice x1 As.length d1, .slice x2 Es.length d2, .slice x3 Ps.length d3, .slice x4 Os.length d4] #[.string s2, .slice z1 Bs.length f1, .slice z2 Fs.length f2, .slice z3 Qs.length f3, .slice z4 Rs.length f4] (.slice x1 n1 d1) (.slice x2 n2 d2) (.slice x3 n3 d3) (.slice x4 n4 d4) (.slice z1 m1 f1) (.slice z2 m2 f2) (.slice z3 m3 f3) (.slice z4 m4 f4) n1 n2 n3 n4 m1 m2 m3 m4 (As.flatMap aP) (Es.flatMap eP) (Ps.flatMap pP) (Os.flatMap pP) (Bs.flatMap aP) (Fs.flatMap eP) (Qs.flatMap pP) (Rs.flatMap pP) ((w.alloc (.cells #[.string s1, .slice x1 As.length d1, .slice x2 Es.length d2, .slice x3 Ps.length d3, .slice x4 Os.length d4] 26)).alloc (.cells #[.string s2, .slice z1 Bs.length f1, .slice z2 Fs.length f2, .slice z3 Qs.length f3, .slice z4 Rs.length f4] 26))) := by
    have rb := blkA_new 26 (w.alloc (.cells #[.string s1, .slice x1 As.length d1, .slice x2 Es.length d2, .slice x3 Ps.length d3, .slice x4 Os.length d4] 26)) #[.string s2, .slice z1 Bs.length f1, .slice z2 Fs.length f2, .slice z3 Qs.length f3, .slice z4 Rs.length f4]
    rw [World.size_alloc] at rb
    subst hn1 hn2 hn3 hn4 hm1 hm2 hm3 hm4
    exact ⟨(blkA_new 26 w _).below bb, rb, owns_below q1.r1 bc, owns_below q1.r2 bc, owns_below q1.r3 bc, owns_below q1.r4 bc, owns_below q2.r1 bc, owns_below q2.r2 bc, owns_below q2.r3 bc, owns_below q2.r4 bc, q1.n34, q2.n34, hlo, fun k e => by
      rcases e with e | e | e | e
      · exact own_lt q2.r1 k e
      · exact own_lt q2.r2 k e
      · exact own_lt q2.r3 k e
      · exact own_lt q2.r4 k e, hb, hB, hz⟩
  have RW : Hid (Rws B1 ((w.alloc (.cells #[.string s1, .slice x1 As.length d1, .slice x2 Es.length d2, .slice x3 Ps.length d3, .slice x4 Os.length d4] 26)).alloc (.cells #[.string s2, .slice z1 Bs.length f1, .slice z2 Fs.length f2, .slice z3 Qs.length f3, .slice z4 Rs.length f4] 26)) (elG As Es ++ elG Bs Fs)) := ⟨fun p hp => (RW0.nums p hp).below bc, RW0.pair, RW0.short⟩
  have NL : Hid (∀ p ∈ (elG As Es ++ elG Bs Fs), ∀ k, p.2.ownBlock = some k → k < w.heap.size) := fun p hp k e => own_lt (RW0.nums p hp) k e
  have LEN : Hid ((elG As Es ++ elG Bs Fs).length = n1 + n2 + (m1 + m2)) := by
    show List.length _ = _
    rw [List.length_append, elG_len, elG_len]
    omega
  have SND : Hid ((elG As Es ++ elG Bs Fs).map Prod.snd = (As.map Prod.snd ++ Es.map Prod.snd) ++ (Bs.map Prod.snd ++ Fs.map Prod.snd)) := by
    show List.map _ _ = _
    rw [List.map_append, elG_snd, elG_snd]
  have BC := hiddenG bc
  have ONE1 := hiddenG sl1.2.2
  have ONE2 := hiddenG sl2.2.2
  have HZ := hiddenG hz
  rw [hn1] at IN1 T0 RW BC HZ cA1 ⊢
  rw [hm1] at IN2 T0 RW BC HZ cB1 ⊢
  rw [hn2] at IN1 T0 RW BC HZ cA2 ⊢
  rw [hm2] at IN2 T0 RW BC HZ cB2 ⊢
  rw [hn3] at IN1 T0 RW BC HZ cA3 ⊢
  rw [hm3] at IN2 T0 RW BC HZ cB3 ⊢
  rw [hn4] at IN1 T0 RW BC HZ cA4 ⊢
  rw [hm4] at IN2 T0 RW BC HZ cB4 ⊢
  clear h1 h2 hlo hel hsh sl1 sl2 RW0 q1 q2 ba bb bc hz hn1 hn2 hn3 hn4 hm1 hm2 hm3 hm4
  go_enter Tryz.func14, Tryz.ntmps14
  go_upto_region 1 with fail
  generalize (w.alloc (.cells #[.string s1, .slice x1 n1 d1, .slice x2 n2 d2, .slice x3 n3 d3, .slice x4 n4 d4] 26)).alloc (.cells #[.string s2, .slice z1 m1 f1, .slice z2 m2 f2, .slice z3 m3 f3, .slice z4 m4 f4] 26) = W0 at *
  have a0 : W0.cell? ⟨w.heap.size, 0, none⟩ = some (.string s1) := T0.out.ba.cell rfl
  have a1 : W0.cell? ⟨w.heap.size, 1, none⟩ = some (.slice x1 n1 d1) := T0.out.ba.cell rfl
  have a2 : W0.cell? ⟨w.heap.size, 2, none⟩ = some (.slice x2 n2 d2) := T0.out.ba.cell rfl
  have a3 : W0.cell? ⟨w.heap.size, 3, none⟩ = some (.slice x3 n3 d3) := T0.out.ba.cell rfl
  have a4 : W0.cell? ⟨w.heap.size, 4, none⟩ = some (.slice x4 n4 d4) := T0.out.ba.cell rfl
  go_upto_region 3 with (first | (go_at_call 30; (with_reducible refine (IN1.out W0 BC.out).mono ?_); rintro e V1 ⟨u1, rfl, ho1, bw1⟩; have O1 := hiddenG ho1; have BW1 := hiddenG bw1; clear ho1 bw1) | (at_builtin; refine wpList_append_rows _ rfl (.tmp 8) (.tmp 10) rfl W0.heap.size W0.heap.size (.slice none 0 0) u1 0 (n1 + n2) [] _ rfl (World.ownsRow_nil _ _ _ _) rfl O1.out ONE1.out (by omega) BW1.out.size ?_; intro t5 V2 ho bw; have O2 := hiddenG ho; have BW2 := hiddenG (BW1.out.trans bw); clear ho bw))
  clear a0 a1 a2 a3 a4
  clear O1 BW1
  rw [List.nil_append, Nat.zero_add] at O2
  have b0 : V2.cell? ⟨w.heap.size + 1, 0, none⟩ = some (.string s2) := (T0.out.later BW2.out).bb.cell rfl
  have b1 : V2.cell? ⟨w.heap.size + 1, 1, none⟩ = some (.slice z1 m1 f1) := (T0.out.later BW2.out).bb.cell rfl
  have b2 : V2.cell? ⟨w.heap.size + 1, 2, none⟩ = some (.slice z2 m2 f2) := (T0.out.later BW2.out).bb.cell rfl
  have b3 : V2.cell? ⟨w.heap.size + 1, 3, none⟩ = some (.slice z3 m3 f3) := (T0.out.later BW2.out).bb.cell rfl
  have b4 : V2.cell? ⟨w.heap.size + 1, 4, none⟩ = some (.slice z4 m4 f4) := (T0.out.later BW2.out).bb.cell rfl
  go_upto_region 4 with (first | (go_at_call 30; (with_reducible refine (IN2.out V2 (BC.out.trans (BW2.out.mono BC.out.size))).mono ?_); rintro e V3 ⟨u2, rfl, ho3, bw3⟩; have O3 := hiddenG ho3; have BW3 := hiddenG bw3; clear ho3 bw3) | (at_builtin; refine wpList_append_rows _ rfl (.tmp 12) (.tmp 14) rfl W0.heap.size V2.heap.size t5 u2 (n1 + n2) (m1 + m2) _ _ rfl (owns_below O2.out BW3.out) rfl O3.out ONE2.out (by omega) (Nat.le_trans BW2.out.size BW3.out.size) ?_; intro t6 V4 ho bw; have O4 := hiddenG ho; have BW4 := hiddenG ((BW2.out.trans (BW3.out.mono BW2.out.size)).trans bw); clear ho bw))
  clear b0 b1 b2 b3 b4
  clear O3 BW3 O2 BW2 IN1 IN2 ONE1 ONE2
  rw [← SND.out] at O4
  have AP : Hid (Calls Tryz.prog 31 #[t6] V4 fun e w' => e = .returned (.bool true) ∧ Below B1 W0 w' ∧ ∀ k, k < W0.heap.size → (∀ p ∈ (elG As Es ++ elG Bs Fs), p.2.ownBlock ≠ some k) → w'.heap[k]? = W0.heap[k]?) := apart_two B1 (n1 + n2 + (m1 + m2)) t6 W0 V4 (elG As Es ++ elG Bs Fs) LEN.out (by omega) O4.out BW4.out RW.out (by have := HZ.out; omega)
  go_upto_region 6 with (go_at_call 31; (with_reducible refine AP.out.mono ?_); rintro e w5 ⟨rfl, hb5, hk5⟩; have HB5 := hiddenG hb5; have HK5 := hiddenG hk5; clear hb5 hk5)
  have T5 : Hid (TwoR w.heap.size B1 B2 #[.string s1, .slice x1 n1 d1, .slice x2 n2 d2, .slice x3 n3 d3, .slice x4 n4 d4] #[.string s2, .slice z1 m1 f1, .slice z2 m2 f2, .slice z3 m3 f3, .slice z4 m4 f4] (.slice x1 n1 d1) (.slice x2 n2 d2) (.slice x3 n3 d3) (.slice x4 n4 d4) (.slice z1 m1 f1) (.slice z2 m2 f2) (.slice z3 m3 f3) (.slice z4 m4 f4) n1 n2 n3 n4 m1 m2 m3 m4 (As.flatMap aP) (Es.flatMap eP) (Ps.flatMap pP) (Os.flatMap pP) (Bs.flatMap aP) (Fs.flatMap eP) (Qs.flatMap pP) (Rs.flatMap pP) w5) := by
    have h0 := T0.out
    have hz := HZ.out
    have nl : ∀ p ∈ (elG As Es ++ elG Bs Fs), ∀ k, p.2.ownBlock = some k → k < w.heap.size := NL.out
    refine h0.keep HB5.out.size fun k hk => HK5.out k ?_ fun p hp e => ?_
    · rcases hk with rfl | rfl | hk | hk
      · omega
      · omega
      · have := h0.lo k hk; omega
      · have := h0.hi k hk; omega
    · have hki := nl p hp k e
      have R := RW.out.nums p hp
      rcases hk with rfl | rfl | (hk | hk | hk | hk) | (hk | hk | hk | hk)
      · omega
      · omega
      · exact own_types h0.r1 R (by decide) k hk e
      · exact own_types h0.r2 R (by decide) k hk e
      · exact own_types h0.r3 R (by decide) k hk e
      · exact own_types h0.r4 R (by decide) k hk e
      · exact own_types h0.s1 R (by decide) k hk e
      · exact own_types h0.s2 R (by decide) k hk e
      · exact own_types h0.s3 R (by decide) k hk e
      · exact own_types h0.s4 R (by decide) k hk e
  have B5 : Hid (Below B1 w w5) := (BC.out.mono (by omega)).trans HB5.out
  clear AP HB5 HK5 O4 BW4 T0 RW NL LEN SND BC HZ
  have a0 : w5.cell? ⟨w.heap.size, 0, none⟩ = some (.string s1) := T5.out.ba.cell rfl
  have a1 : w5.cell? ⟨w.heap.size, 1, none⟩ = some (.slice x1 n1 d1) := T5.out.ba.cell rfl
  have a2 : w5.cell? ⟨w.heap.size, 2, none⟩ = some (.slice x2 n2 d2) := T5.out.ba.cell rfl
  have a3 : w5.cell? ⟨w.heap.size, 3, none⟩ = some (.slice x3 n3 d3) := T5.out.ba.cell rfl
  have a4 : w5.cell? ⟨w.heap.size, 4, none⟩ = some (.slice x4 n4 d4) := T5.out.ba.cell rfl
  have WA : Hid (Calls Tryz.prog 32 #[.agg #[.string s1, .slice x1 n1 d1, .slice x2 n2 d2, .slice x3 n3 d3, .slice x4 n4 d4], .int .i64 77] w5 (WrE w5 B1 #[.string s1, .slice x1 n1 d1, .slice x2 n2 d2, .slice x3 n3 d3, .slice x4 n4 d4] (.slice x1 n1 d1) (.slice x2 n2 d2) (.slice x3 n3 d3) (.slice x4 n4 d4) n1 n2 n3 n4 77)) := write_any B1 _ x1 x2 x3 x4 n1 n2 n3 n4 d1 d2 d3 d4 77 _ _ _ _ w5 T5.out.r1 T5.out.r2 T5.out.r3 T5.out.r4 T5.out.n34 (Nat.le_trans hb (Nat.le_trans hB (Nat.le_trans (Nat.le_add_right _ 2) T5.out.big))) (by decide) (by omega) (by omega) (by omega) (by omega)
  go_upto_region 7 with (go_at_call 32; (with_reducible refine WA.out.mono ?_); rintro e w6 ⟨rfl, hs⟩; have T6 : Hid (TwoR w.heap.size B1 B2 #[.string s1, .slice x1 n1 d1, .slice x2 n2 d2, .slice x3 n3 d3, .slice x4 n4 d4] #[.string s2, .slice z1 m1 f1, .slice z2 m2 f2, .slice z3 m3 f3, .slice z4 m4 f4] (.slice x1 n1 d1) (.slice x2 n2 d2) (.slice x3 n3 d3) (.slice x4 n4 d4) (.slice z1 m1 f1) (.slice z2 m2 f2) (.slice z3 m3 f3) (.slice z4 m4 f4) n1 n2 n3 n4 m1 m2 m3 m4 (repX n1 (mA 77)) (repX n2 (mE 77)) (repX n3 (mP 77 1)) (repX n4 (mP 77 2)) (Bs.flatMap aP) (Fs.flatMap eP) (Qs.flatMap pP) (Rs.flatMap pP) w6) := T5.out.wr1 hs; have B6 : Hid (Below B1 w w6) := B5.out.trans hs.bel; clear hs)
  clear a0 a1 a2 a3 a4
  clear WA T5 B5
  have b0 : w6.cell? ⟨w.heap.size + 1, 0, none⟩ = some (.string s2) := T6.out.bb.cell rfl
  have b1 : w6.cell? ⟨w.heap.size + 1, 1, none⟩ = some (.slice z1 m1 f1) := T6.out.bb.cell rfl
  have b2 : w6.cell? ⟨w.heap.size + 1, 2, none⟩ = some (.slice z2 m2 f2) := T6.out.bb.cell rfl
  have b3 : w6.cell? ⟨w.heap.size + 1, 3, none⟩ = some (.slice z3 m3 f3) := T6.out.bb.cell rfl
  have b4 : w6.cell? ⟨w.heap.size + 1, 4, none⟩ = some (.slice z4 m4 f4) := T6.out.bb.cell rfl
  have WB : Hid (Calls Tryz.prog 32 #[.agg #[.string s2, .slice z1 m1 f1, .slice z2 m2 f2, .slice z3 m3 f3, .slice z4 m4 f4], .int .i64 78] w6 (WrE w6 B2 #[.string s2, .slice z1 m1 f1, .slice z2 m2 f2, .slice z3 m3 f3, .slice z4 m4 f4] (.slice z1 m1 f1) (.slice z2 m2 f2) (.slice z3 m3 f3) (.slice z4 m4 f4) m1 m2 m3 m4 78)) := write_any B2 _ z1 z2 z3 z4 m1 m2 m3 m4 f1 f2 f3 f4 78 _ _ _ _ w6 T6.out.s1 T6.out.s2 T6.out.s3 T6.out.s4 T6.out.m34 (Nat.le_trans hB (Nat.le_trans (Nat.le_add_right _ 2) T6.out.big)) (by decide) (by omega) (by omega) (by omega) (by omega)
  go_upto_region 8 with (go_at_call 32; (with_reducible refine WB.out.mono ?_); rintro e w7 ⟨rfl, hs⟩; have T7 : Hid (TwoR w.heap.size B1 B2 #[.string s1, .slice x1 n1 d1, .slice x2 n2 d2, .slice x3 n3 d3, .slice x4 n4 d4] #[.string s2, .slice z1 m1 f1, .slice z2 m2 f2, .slice z3 m3 f3, .slice z4 m4 f4] (.slice x1 n1 d1) (.slice x2 n2 d2) (.slice x3 n3 d3) (.slice x4 n4 d4) (.slice z1 m1 f1) (.slice z2 m2 f2) (.slice z3 m3 f3) (.slice z4 m4 f4) n1 n2 n3 n4 m1 m2 m3 m4 (repX n1 (mA 77)) (repX n2 (mE 77)) (repX n3 (mP 77 1)) (repX n4 (mP 77 2)) (repX m1 (mA 78)) (repX m2 (mE 78)) (repX m3 (mP 78 1)) (repX m4 (mP 78 2)) w7) := T6.out.wr2 hs; have B7 : Hid (Below B1 w w7) := B6.out.trans (hs.bel.mono hb); clear hs)
  clear b0 b1 b2 b3 b4
  clear WB T6 B6
  have a0 : w7.cell? ⟨w.heap.size, 0, none⟩ = some (.string s1) := T7.out.ba.cell rfl
  have a1 : w7.cell? ⟨w.heap.size, 1, none⟩ = some (.slice x1 n1 d1) := T7.out.ba.cell rfl
  have a2 : w7.cell? ⟨w.heap.size, 2, none⟩ = some (.slice x2 n2 d2) := T7.out.ba.cell rfl
  have a3 : w7.cell? ⟨w.heap.size, 3, none⟩ = some (.slice x3 n3 d3) := T7.out.ba.cell rfl
  have a4 : w7.cell? ⟨w.heap.size, 4, none⟩ = some (.slice x4 n4 d4) := T7.out.ba.cell rfl
  have GA_ : Hid (Calls Tryz.prog 33 #[.agg #[.string s1, .slice x1 n1 d1, .slice x2 n2 d2, .slice x3 n3 d3, .slice x4 n4 d4], .int .i64 79] w7 (GrnE w7 B1 (.string s1) (.slice x1 n1 d1) (.slice x2 n2 d2) (.slice x3 n3 d3) (.slice x4 n4 d4) (repX n1 (mA 77)) (repX n2 (mE 77)) (repX n3 (mP 77 1)) (repX n4 (mP 77 2)) n1 n2 n3 n4 79)) := grown_any B1 (.string s1) x1 x2 x3 x4 n1 n2 n3 n4 d1 d2 d3 d4 79 _ _ _ _ w7 T7.out.r1 T7.out.r2 T7.out.r3 T7.out.r4 T7.out.n34 (Nat.le_trans hb (Nat.le_trans hB (Nat.le_trans (Nat.le_add_right _ 2) T7.out.big))) (by decide) (by omega) (by omega) (by omega) (by omega) rfl
  go_upto_region 9 with (go_at_call 33; (with_reducible refine GA_.out.mono ?_); rintro e w8 ⟨y1, y2, y3, y4, e1, e2, e3, e4, rfl, hs⟩; have F8 := hiddenG hs; clear hs)
  clear a0 a1 a2 a3 a4
  have E1 := grown_of (t := 77) (s := 79) T7.out.r1 T7.out.r2 T7.out.r3 T7.out.r4 F8.out
  obtain ⟨g1, g2, g3, g4, hG1⟩ := E1
  obtain ⟨hy1, hy2, hy3, hy4⟩ : y1 = some ⟨g1, 0, none⟩ ∧ y2 = some ⟨g2, 0, none⟩ ∧ y3 = some ⟨g3, 0, none⟩ ∧ y4 = some ⟨g4, 0, none⟩ := ⟨hG1.y1, hG1.y2, hG1.y3, hG1.y4⟩
  subst hy1 hy2 hy3 hy4
  have TOP : Hid (w.heap.size + 2 ≤ w7.heap.size) := T7.out.big
  generalize htp : w7.heap.size + 2 = top at hG1
  have TP := hiddenG htp
  clear htp
  have G1 := hiddenG hG1
  clear hG1
  have bv := (Below.refl w8.heap.size w8).alloc (Nat.le_refl _) (.cells #[.string s1, .slice (some ⟨g1, 0, none⟩) (n1 + 16) e1, .slice (some ⟨g2, 0, none⟩) (n2 + 16) e2, .slice (some ⟨g3, 0, none⟩) (n3 + 16) e3, .slice (some ⟨g4, 0, none⟩) (n4 + 16) e4] 26)
  have C9 := hiddenG (blkA_new 26 w8 #[.string s1, .slice (some ⟨g1, 0, none⟩) (n1 + 16) e1, .slice (some ⟨g2, 0, none⟩) (n2 + 16) e2, .slice (some ⟨g3, 0, none⟩) (n3 + 16) e3, .slice (some ⟨g4, 0, none⟩) (n4 + 16) e4])
  have S8 : Hid (BlkA 26 w.heap.size w8 #[.string s1, .slice x1 n1 d1, .slice x2 n2 d2, .slice x3 n3 d3, .slice x4 n4 d4] ∧ BlkA 26 (w.heap.size + 1) w8 #[.string s2, .slice z1 m1 f1, .slice z2 m2 f2, .slice z3 m3 f3, .slice z4 m4 f4] ∧ w8.ownsRow B2 62 3 (.slice z1 m1 f1) m1 (repX m1 (mA 78)) ∧ w8.ownsRow B2 65 5 (.slice z2 m2 f2) m2 (repX m2 (mE 78)) ∧ w8.ownsRow B2 81 3 (.slice z3 m3 f3) m3 (repX m3 (mP 78 1)) ∧ w8.ownsRow B2 81 3 (.slice z4 m4 f4) m4 (repX m4 (mP 78 2))) := by
    have h7 := T7.out
    have hg := h7.big
    have hBB := h7.hB
    have fr : ∀ k, k < w7.heap.size → B2 ≤ k → w8.heap[k]? = w7.heap[k]? := fun k hk hbk => F8.out.fr k hk (fun e => by have := h7.lo k (.inl e); omega) (fun e => by have := h7.lo k (.inr (.inl e)); omega) (fun e => by have := h7.lo k (.inr (.inr (.inl e))); omega) (fun e => by have := h7.lo k (.inr (.inr (.inr e))); omega)
    exact ⟨h7.ba.keep (fr _ (by omega) (by omega)), h7.bb.keep (fr _ (by omega) (by omega)), ownR_keep h7.s1 (fun k e => fr k (own_lt h7.s1 k e) (own_row h7.s1 k e)), ownR_keep h7.s2 (fun k e => fr k (own_lt h7.s2 k e) (own_row h7.s2 k e)), ownR_keep h7.s3 (fun k e => fr k (own_lt h7.s3 k e) (own_row h7.s3 k e)), ownR_keep h7.s4 (fun k e => fr k (own_lt h7.s4 k e) (own_row h7.s4 k e))⟩
  have Z8 : Hid (w7.heap.size ≤ w8.heap.size) := F8.out.bel.size
  have B8 : Hid (Below B1 w w8) := B7.out.trans F8.out.bel
  have SEP : Hid ((∀ k, ((Value.slice x1 n1 d1).ownBlock = some k ∨ (Value.slice x2 n2 d2).ownBlock = some k ∨ (Value.slice x3 n3 d3).ownBlock = some k ∨ (Value.slice x4 n4 d4).ownBlock = some k) → k < B2) ∧ (∀ k, ((Value.slice z1 m1 f1).ownBlock = some k ∨ (Value.slice z2 m2 f2).ownBlock = some k ∨ (Value.slice z3 m3 f3).ownBlock = some k ∨ (Value.slice z4 m4 f4).ownBlock = some k) → B2 ≤ k ∧ k < w.heap.size) ∧ NB (.slice z3 m3 f3) (.slice z4 m4 f4)) := ⟨T7.out.lo, fun k e => ⟨T7.out.up k e, T7.out.hi k e⟩, T7.out.m34⟩
  clear T7 B7 F8 GA_
  have BV := hiddenG bv
  clear bv
  generalize hq8 : w8.heap.size = q8 at *
  have Q8 : Hid (w8.heap.size = q8) := hq8
  clear hq8
  generalize w8.alloc (.cells #[.string s1, .slice (some ⟨g1, 0, none⟩) (n1 + 16) e1, .slice (some ⟨g2, 0, none⟩) (n2 + 16) e2, .slice (some ⟨g3, 0, none⟩) (n3 + 16) e3, .slice (some ⟨g4, 0, none⟩) (n4 + 16) e4] 26) = w9 at *
  have BV9 : Hid (Below w8.heap.size w8 w9) := by rw [Q8.out]; exact BV.out
  have S9 : Hid (BlkA 26 w.heap.size w9 #[.string s1, .slice x1 n1 d1, .slice x2 n2 d2, .slice x3 n3 d3, .slice x4 n4 d4] ∧ BlkA 26 (w.heap.size + 1) w9 #[.string s2, .slice z1 m1 f1, .slice z2 m2 f2, .slice z3 m3 f3, .slice z4 m4 f4] ∧ w9.ownsRow B2 62 3 (.slice z1 m1 f1) m1 (repX m1 (mA 78)) ∧ w9.ownsRow B2 65 5 (.slice z2 m2 f2) m2 (repX m2 (mE 78)) ∧ w9.ownsRow B2 81 3 (.slice z3 m3 f3) m3 (repX m3 (mP 78 1)) ∧ w9.ownsRow B2 81 3 (.slice z4 m4 f4) m4 (repX m4 (mP 78 2))) := ⟨S8.out.1.below BV9.out, S8.out.2.1.below BV9.out, owns_below S8.out.2.2.1 BV9.out, owns_below S8.out.2.2.2.1 BV9.out, owns_below S8.out.2.2.2.2.1 BV9.out, owns_below S8.out.2.2.2.2.2 BV9.out⟩
  have B9 : Hid (Below B1 w w9) := B8.out.trans (BV9.out.mono (by have := TOP.out; have := Z8.out; have := Q8.out; omega))
  have G9 := hiddenG (G1.out.keep BV9.out.size fun k hk _ => BV9.out.block k hk)
  have Z9 : Hid (w.heap.size + 2 ≤ q8 ∧ q8 < w9.heap.size ∧ w7.heap.size ≤ q8) := ⟨Nat.le_trans TOP.out Z8.out, C9.out.lt, Z8.out⟩
  clear S8 B8 G1 BV BV9 Z8 Q8
  have b0 : w9.cell? ⟨w.heap.size + 1, 0, none⟩ = some (.string s2) := S9.out.2.1.cell rfl
  have b1 : w9.cell? ⟨w.heap.size + 1, 1, none⟩ = some (.slice z1 m1 f1) := S9.out.2.1.cell rfl
  have b2 : w9.cell? ⟨w.heap.size + 1, 2, none⟩ = some (.slice z2 m2 f2) := S9.out.2.1.cell rfl
  have b3 : w9.cell? ⟨w.heap.size + 1, 3, none⟩ = some (.slice z3 m3 f3) := S9.out.2.1.cell rfl
  have b4 : w9.cell? ⟨w.heap.size + 1, 4, none⟩ = some (.slice z4 m4 f4) := S9.out.2.1.cell rfl
  have GB_ : Hid (Calls Tryz.prog 33 #[.agg #[.string s2, .slice z1 m1 f1, .slice z2 m2 f2, .slice z3 m3 f3, .slice z4 m4 f4], .int .i64 80] w9 (GrnE w9 B2 (.string s2) (.slice z1 m1 f1) (.slice z2 m2 f2) (.slice z3 m3 f3) (.slice z4 m4 f4) (repX m1 (mA 78)) (repX m2 (mE 78)) (repX m3 (mP 78 1)) (repX m4 (mP 78 2)) m1 m2 m3 m4 80)) := grown_any B2 (.string s2) z1 z2 z3 z4 m1 m2 m3 m4 f1 f2 f3 f4 80 _ _ _ _ w9 S9.out.2.2.1 S9.out.2.2.2.1 S9.out.2.2.2.2.1 S9.out.2.2.2.2.2 SEP.out.2.2 (by have := Z9.out; omega) (by decide) (by omega) (by omega) (by omega) (by omega) rfl
  go_upto_region 10 with (go_at_call 33; (with_reducible refine GB_.out.mono ?_); rintro e w10 ⟨y1, y2, y3, y4, k1, k2, k3, k4, rfl, hs⟩; have F10 := hiddenG hs; clear hs)
  clear b0 b1 b2 b3 b4
  obtain ⟨j1, j2, j3, j4, hG2⟩ := grown_of (t := 78) (s := 80) S9.out.2.2.1 S9.out.2.2.2.1 S9.out.2.2.2.2.1 S9.out.2.2.2.2.2 F10.out
  obtain ⟨hy1, hy2, hy3, hy4⟩ : y1 = some ⟨j1, 0, none⟩ ∧ y2 = some ⟨j2, 0, none⟩ ∧ y3 = some ⟨j3, 0, none⟩ ∧ y4 = some ⟨j4, 0, none⟩ := ⟨hG2.y1, hG2.y2, hG2.y3, hG2.y4⟩
  subst hy1 hy2 hy3 hy4
  have FR : Hid (∀ k, k < w9.heap.size → (k < B2 ∨ w.heap.size ≤ k) → w10.heap[k]? = w9.heap[k]?) := fun k hk hbk => F10.out.fr k hk (fun e => by have := SEP.out.2.1 k (.inl e); omega) (fun e => by have := SEP.out.2.1 k (.inr (.inl e)); omega) (fun e => by have := SEP.out.2.1 k (.inr (.inr (.inl e))); omega) (fun e => by have := SEP.out.2.1 k (.inr (.inr (.inr e))); omega)
  have S10 : Hid (BlkA 26 w.heap.size w10 #[.string s1, .slice x1 n1 d1, .slice x2 n2 d2, .slice x3 n3 d3, .slice x4 n4 d4] ∧ BlkA 26 (w.heap.size + 1) w10 #[.string s2, .slice z1 m1 f1, .slice z2 m2 f2, .slice z3 m3 f3, .slice z4 m4 f4] ∧ BlkA 26 q8 w10 #[.string s1, .slice (some ⟨g1, 0, none⟩) (n1 + 16) e1, .slice (some ⟨g2, 0, none⟩) (n2 + 16) e2, .slice (some ⟨g3, 0, none⟩) (n3 + 16) e3, .slice (some ⟨g4, 0, none⟩) (n4 + 16) e4]) := by
    have z := Z9.out
    exact ⟨S9.out.1.keep (FR.out _ (by omega) (by omega)), S9.out.2.1.keep (FR.out _ (by omega) (by omega)), C9.out.keep (FR.out _ (by omega) (by omega))⟩
  have G10 : Hid (Grown w10 top x1 x2 x3 x4 n1 n2 n3 n4 d1 d2 d3 d4 (some ⟨g1, 0, none⟩) (some ⟨g2, 0, none⟩) (some ⟨g3, 0, none⟩) (some ⟨g4, 0, none⟩) e1 e2 e3 e4 77 79 g1 g2 g3 g4) := G9.out.keep F10.out.bel.size fun k hk e => FR.out k hk (by
    rcases e with e | e
    · exact .inl (SEP.out.1 k e)
    · have := TOP.out; have := TP.out; omega)
  have H10 := hiddenG hG2
  clear hG2
  have bv := (Below.refl w10.heap.size w10).alloc (Nat.le_refl _) (.cells #[.string s2, .slice (some ⟨j1, 0, none⟩) (m1 + 16) k1, .slice (some ⟨j2, 0, none⟩) (m2 + 16) k2, .slice (some ⟨j3, 0, none⟩) (m3 + 16) k3, .slice (some ⟨j4, 0, none⟩) (m4 + 16) k4] 26)
  have D11 := hiddenG (blkA_new 26 w10 #[.string s2, .slice (some ⟨j1, 0, none⟩) (m1 + 16) k1, .slice (some ⟨j2, 0, none⟩) (m2 + 16) k2, .slice (some ⟨j3, 0, none⟩) (m3 + 16) k3, .slice (some ⟨j4, 0, none⟩) (m4 + 16) k4])
  have A11 := hiddenG (S10.out.1.below bv)
  have N11 := hiddenG (S10.out.2.1.below bv)
  have C11 := hiddenG (S10.out.2.2.below bv)
  have G11 := hiddenG (G10.out.keep bv.size fun k hk _ => bv.block k hk)
  have H11 := hiddenG (H10.out.keep bv.size fun k hk _ => bv.block k hk)
  have B11 := hiddenG (B9.out.trans ((F10.out.bel.mono hb).trans (bv.mono (by have := F10.out.bel.size; have := B9.out.size; omega))))
  clear bv GB_ F10 S9 S10 G9 G10 H10 B9 FR Z9 C9 SEP TOP TP
  generalize w10.heap.size = q10 at *
  generalize w10.alloc (.cells #[.string s2, .slice (some ⟨j1, 0, none⟩) (m1 + 16) k1, .slice (some ⟨j2, 0, none⟩) (m2 + 16) k2, .slice (some ⟨j3, 0, none⟩) (m3 + 16) k3, .slice (some ⟨j4, 0, none⟩) (m4 + 16) k4] 26) = w11 at *
  have MA_ : Hid (∀ U, Below w11.heap.size w11 U → Calls Tryz.prog 34 #[.agg #[.string s1, .slice x1 n1 d1, .slice x2 n2 d2, .slice x3 n3 d3, .slice x4 n4 d4], .int .i64 77] U fun e w' => e = .returned (.bool true) ∧ Below U.heap.size U w') := fun U hU => marked_any _ x1 x2 x3 x4 n1 n2 n3 n4 d1 d2 d3 d4 77 U (G11.out.old.keep fun g m e => hU.block g (G11.out.lt g (.inl ⟨m, e⟩)).1) (fun g m e => Nat.lt_of_lt_of_le (G11.out.lt g (.inl ⟨m, e⟩)).1 hU.size) (by decide) (by omega) (by omega) (by omega) (by omega)
  have MB_ : Hid (∀ U, Below w11.heap.size w11 U → Calls Tryz.prog 34 #[.agg #[.string s2, .slice z1 m1 f1, .slice z2 m2 f2, .slice z3 m3 f3, .slice z4 m4 f4], .int .i64 78] U fun e w' => e = .returned (.bool true) ∧ Below U.heap.size U w') := fun U hU => marked_any _ z1 z2 z3 z4 m1 m2 m3 m4 f1 f2 f3 f4 78 U (H11.out.old.keep fun g m e => hU.block g (H11.out.lt g (.inl ⟨m, e⟩)).1) (fun g m e => Nat.lt_of_lt_of_le (H11.out.lt g (.inl ⟨m, e⟩)).1 hU.size) (by decide) (by omega) (by omega) (by omega) (by omega)
  have MC_ : Hid (∀ U, Below w11.heap.size w11 U → Calls Tryz.prog 34 #[.agg #[.string ⟨#[]⟩, .slice (some ⟨g1, n1 * 3, none⟩) 16 (e1 - n1), .slice (some ⟨g2, n2 * 5, none⟩) 16 (e2 - n2), .slice (some ⟨g3, n3 * 3, none⟩) 16 (e3 - n3), .slice (some ⟨g4, n4 * 3, none⟩) 16 (e4 - n4)], .int .i64 79] U fun e w' => e = .returned (.bool true) ∧ Below U.heap.size U w') := fun U hU => marked_any _ _ _ _ _ 16 16 16 16 _ _ _ _ 79 U (G11.out.new.keep fun g m e => hU.block g (G11.out.lt g (.inr ⟨m, e⟩)).1) (fun g m e => Nat.lt_of_lt_of_le (G11.out.lt g (.inr ⟨m, e⟩)).1 hU.size) (by decide) (by omega) (by omega) (by omega) (by omega)
  have MD_ : Hid (∀ U, Below w11.heap.size w11 U → Calls Tryz.prog 34 #[.agg #[.string ⟨#[]⟩, .slice (some ⟨j1, m1 * 3, none⟩) 16 (k1 - m1), .slice (some ⟨j2, m2 * 5, none⟩) 16 (k2 - m2), .slice (some ⟨j3, m3 * 3, none⟩) 16 (k3 - m3), .slice (some ⟨j4, m4 * 3, none⟩) 16 (k4 - m4)], .int .i64 80] U fun e w' => e = .returned (.bool true) ∧ Below U.heap.size U w') := fun U hU => marked_any _ _ _ _ _ 16 16 16 16 _ _ _ _ 80 U (H11.out.new.keep fun g m e => hU.block g (H11.out.lt g (.inr ⟨m, e⟩)).1) (fun g m e => Nat.lt_of_lt_of_le (H11.out.lt g (.inr ⟨m, e⟩)).1 hU.size) (by decide) (by omega) (by omega) (by omega) (by omega)
  have BC_ : Hid (∀ U, Calls Tryz.prog 35 #[.agg #[.string s1, .slice (some ⟨g1, 0, none⟩) (n1 + 16) e1, .slice (some ⟨g2, 0, none⟩) (n2 + 16) e2, .slice (some ⟨g3, 0, none⟩) (n3 + 16) e3, .slice (some ⟨g4, 0, none⟩) (n4 + 16) e4], .agg #[.string s1, .slice x1 n1 d1, .slice x2 n2 d2, .slice x3 n3 d3, .slice x4 n4 d4]] U fun e w' => e = .returned (.agg #[.string ⟨#[]⟩, .slice (some ⟨g1, n1 * 3, none⟩) 16 (e1 - n1), .slice (some ⟨g2, n2 * 5, none⟩) 16 (e2 - n2), .slice (some ⟨g3, n3 * 3, none⟩) 16 (e3 - n3), .slice (some ⟨g4, n4 * 3, none⟩) 16 (e4 - n4)]) ∧ Below U.heap.size U w') := fun U => behind_any _ _ x1 x2 x3 x4 n1 n2 n3 n4 d1 d2 d3 d4 g1 g2 g3 g4 e1 e2 e3 e4 U G11.out.e1 G11.out.e2 G11.out.e3 G11.out.e4
  have BD_ : Hid (∀ U, Calls Tryz.prog 35 #[.agg #[.string s2, .slice (some ⟨j1, 0, none⟩) (m1 + 16) k1, .slice (some ⟨j2, 0, none⟩) (m2 + 16) k2, .slice (some ⟨j3, 0, none⟩) (m3 + 16) k3, .slice (some ⟨j4, 0, none⟩) (m4 + 16) k4], .agg #[.string s2, .slice z1 m1 f1, .slice z2 m2 f2, .slice z3 m3 f3, .slice z4 m4 f4]] U fun e w' => e = .returned (.agg #[.string ⟨#[]⟩, .slice (some ⟨j1, m1 * 3, none⟩) 16 (k1 - m1), .slice (some ⟨j2, m2 * 5, none⟩) 16 (k2 - m2), .slice (some ⟨j3, m3 * 3, none⟩) 16 (k3 - m3), .slice (some ⟨j4, m4 * 3, none⟩) 16 (k4 - m4)]) ∧ Below U.heap.size U w') := fun U => behind_any _ _ z1 z2 z3 z4 m1 m2 m3 m4 f1 f2 f3 f4 j1 j2 j3 j4 k1 k2 k3 k4 U H11.out.e1 H11.out.e2 H11.out.e3 H11.out.e4
  clear G11 H11
  have U0 := hiddenG (Below.refl w11.heap.size w11)
  have a0 : w11.cell? ⟨w.heap.size, 0, none⟩ = some (.string s1) := A11.out.cell rfl
  have a1 : w11.cell? ⟨w.heap.size, 1, none⟩ = some (.slice x1 n1 d1) := A11.out.cell rfl
  have a2 : w11.cell? ⟨w.heap.size, 2, none⟩ = some (.slice x2 n2 d2) := A11.out.cell rfl
  have a3 : w11.cell? ⟨w.heap.size, 3, none⟩ = some (.slice x3 n3 d3) := A11.out.cell rfl
  have a4 : w11.cell? ⟨w.heap.size, 4, none⟩ = some (.slice x4 n4 d4) := A11.out.cell rfl
  go_wp2_with (first | (go_at_call 34; (with_reducible refine (MA_.out _ U0.out).mono ?_); rintro e p1 ⟨rfl, bx⟩; have U1 := hiddenG (U0.out.trans (bx.mono U0.out.size)); clear bx; clear a0 a1 a2 a3 a4; have b0 : p1.cell? ⟨w.heap.size + 1, 0, none⟩ = some (.string s2) := (N11.out.below U1.out).cell rfl; have b1 : p1.cell? ⟨w.heap.size + 1, 1, none⟩ = some (.slice z1 m1 f1) := (N11.out.below U1.out).cell rfl; have b2 : p1.cell? ⟨w.heap.size + 1, 2, none⟩ = some (.slice z2 m2 f2) := (N11.out.below U1.out).cell rfl; have b3 : p1.cell? ⟨w.heap.size + 1, 3, none⟩ = some (.slice z3 m3 f3) := (N11.out.below U1.out).cell rfl; have b4 : p1.cell? ⟨w.heap.size + 1, 4, none⟩ = some (.slice z4 m4 f4) := (N11.out.below U1.out).cell rfl) | (go_at_call 34; (with_reducible refine (MB_.out _ U1.out).mono ?_); rintro e p2 ⟨rfl, bx⟩; have U2 := hiddenG (U1.out.trans (bx.mono U1.out.size)); clear bx; clear b0 b1 b2 b3 b4; have c0 : p2.cell? ⟨q8, 0, none⟩ = some (.string s1) := (C11.out.below U2.out).cell rfl; have c1 : p2.cell? ⟨q8, 1, none⟩ = some (.slice (some ⟨g1, 0, none⟩) (n1 + 16) e1) := (C11.out.below U2.out).cell rfl; have c2 : p2.cell? ⟨q8, 2, none⟩ = some (.slice (some ⟨g2, 0, none⟩) (n2 + 16) e2) := (C11.out.below U2.out).cell rfl; have c3 : p2.cell? ⟨q8, 3, none⟩ = some (.slice (some ⟨g3, 0, none⟩) (n3 + 16) e3) := (C11.out.below U2.out).cell rfl; have c4 : p2.cell? ⟨q8, 4, none⟩ = some (.slice (some ⟨g4, 0, none⟩) (n4 + 16) e4) := (C11.out.below U2.out).cell rfl; have a0 : p2.cell? ⟨w.heap.size, 0, none⟩ = some (.string s1) := (A11.out.below U2.out).cell rfl; have a1 : p2.cell? ⟨w.heap.size, 1, none⟩ = some (.slice x1 n1 d1) := (A11.out.below U2.out).cell rfl; have a2 : p2.cell? ⟨w.heap.size, 2, none⟩ = some (.slice x2 n2 d2) := (A11.out.below U2.out).cell rfl; have a3 : p2.cell? ⟨w.heap.size, 3, none⟩ = some (.slice x3 n3 d3) := (A11.out.below U2.out).cell rfl; have a4 : p2.cell? ⟨w.heap.size, 4, none⟩ = some (.slice x4 n4 d4) := (A11.out.below U2.out).cell rfl) | (go_at_call 35; (with_reducible refine (BC_.out _).mono ?_); rintro e p3 ⟨rfl, bx⟩; have U3 := hiddenG (U2.out.trans (bx.mono U2.out.size)); clear bx; clear c0 c1 c2 c3 c4 a0 a1 a2 a3 a4) | (go_at_call 34; (with_reducible refine (MC_.out _ U3.out).mono ?_); rintro e p4 ⟨rfl, bx⟩; have U4 := hiddenG (U3.out.trans (bx.mono U3.out.size)); clear bx; have c0 : p4.cell? ⟨q10, 0, none⟩ = some (.string s2) := (D11.out.below U4.out).cell rfl; have c1 : p4.cell? ⟨q10, 1, none⟩ = some (.slice (some ⟨j1, 0, none⟩) (m1 + 16) k1) := (D11.out.below U4.out).cell rfl; have c2 : p4.cell? ⟨q10, 2, none⟩ = some (.slice (some ⟨j2, 0, none⟩) (m2 + 16) k2) := (D11.out.below U4.out).cell rfl; have c3 : p4.cell? ⟨q10, 3, none⟩ = some (.slice (some ⟨j3, 0, none⟩) (m3 + 16) k3) := (D11.out.below U4.out).cell rfl; have c4 : p4.cell? ⟨q10, 4, none⟩ = some (.slice (some ⟨j4, 0, none⟩) (m4 + 16) k4) := (D11.out.below U4.out).cell rfl; have b0 : p4.cell? ⟨w.heap.size + 1, 0, none⟩ = some (.string s2) := (N11.out.below U4.out).cell rfl; have b1 : p4.cell? ⟨w.heap.size + 1, 1, none⟩ = some (.slice z1 m1 f1) := (N11.out.below U4.out).cell rfl; have b2 : p4.cell? ⟨w.heap.size + 1, 2, none⟩ = some (.slice z2 m2 f2) := (N11.out.below U4.out).cell rfl; have b3 : p4.cell? ⟨w.heap.size + 1, 3, none⟩ = some (.slice z3 m3 f3) := (N11.out.below U4.out).cell rfl; have b4 : p4.cell? ⟨w.heap.size + 1, 4, none⟩ = some (.slice z4 m4 f4) := (N11.out.below U4.out).cell rfl) | (go_at_call 35; (with_reducible refine (BD_.out _).mono ?_); rintro e p5 ⟨rfl, bx⟩; have U5 := hiddenG (U4.out.trans (bx.mono U4.out.size)); clear bx; clear c0 c1 c2 c3 c4 b0 b1 b2 b3 b4) | (go_at_call 34; (with_reducible refine (MD_.out _ U5.out).mono ?_); rintro e p6 ⟨rfl, bx⟩; have U6 := hiddenG (U5.out.trans (bx.mono U5.out.size)); clear bx))
  refine bodyPost_ret (v := .bool true) (by simp [results, Tryz.results14, go_sem]) rfl ?_
  exact ⟨rfl, B11.out.trans (U6.out.mono (by have := B11.out.size; omega))⟩
/-- The graph that Build answers. -/
def bG (nm : List UInt8) (K : List Itm) : GG := if (buildS nm K).2.1 = 0 then lookS nm K else gg0
theorem bG_len (nm : List UInt8) (K : List Itm) : (bG nm K).actors.length ≤ 32 ∧ (bG nm K).edges.length ≤ 96 ∧ (bG nm K).ins.length ≤ 16 ∧ (bG nm K).outs.length ≤ 16 := by
  unfold bG
  by_cases h : (buildS nm K).2.1 = 0
  · rw [if_pos h]
    have q := head_ok ((sound_iff _).1 (build_zero h).2).head
    omega
  · rw [if_neg h]
    exact ⟨Nat.zero_le _, Nat.zero_le _, Nat.zero_le _, Nat.zero_le _⟩
/-- A graph in lists of its owner's. -/
structure BO (B : Nat) (w : World) (G : GG) (x1 x2 x3 x4 : Option Addr) (d1 d2 d3 d4 : Nat) (As : List (GA × Value)) (Es : List (GE × Value)) : Prop where
  own : GOwn B w (.slice x1 As.length d1) (.slice x2 Es.length d2) (.slice x3 G.ins.length d3) (.slice x4 G.outs.length d4) As Es G.ins G.outs
  a : As.map Prod.fst = G.actors
  e : Es.map Prod.fst = G.edges
  na : ∀ p ∈ As, p.1.tag ≤ 255 ∧ NumsOk p.1.params
  ne : ∀ p ∈ Es, NumsOk p.1.start
theorem BO.la {B w G x1 x2 x3 x4 d1 d2 d3 d4 As Es} (h : BO B w G x1 x2 x3 x4 d1 d2 d3 d4 As Es) : As.length = G.actors.length := by have e := congrArg List.length h.a; rw [List.length_map] at e; exact e
theorem BO.le {B w G x1 x2 x3 x4 d1 d2 d3 d4 As Es} (h : BO B w G x1 x2 x3 x4 d1 d2 d3 d4 As Es) : Es.length = G.edges.length := by have e := congrArg List.length h.e; rw [List.length_map] at e; exact e
theorem BO.later {B w G x1 x2 x3 x4 d1 d2 d3 d4 As Es} {w' : World} (h : BO B w G x1 x2 x3 x4 d1 d2 d3 d4 As Es) (hb : Below w.heap.size w w') : BO B w' G x1 x2 x3 x4 d1 d2 d3 d4 As Es :=
  ⟨h.own.keep fun k _ hk => hb.block k hk, h.a, h.e, h.na, h.ne⟩
theorem BO.gr {B w G x1 x2 x3 x4 d1 d2 d3 d4 As Es} (h : BO B w G x1 x2 x3 x4 d1 d2 d3 d4 As Es) (l1 : G.actors.length ≤ 32) (l2 : G.edges.length ≤ 96) (l3 : G.ins.length ≤ 16) (l4 : G.outs.length ≤ 16) : GrG w x1 x2 x3 x4 G := by
  have e1 := h.la
  have e2 := h.le
  have q := h.own.gr (nm := G.name) h.na h.ne (by omega) (by omega) (by omega) (by omega)
  rw [h.a, h.e] at q
  exact q
/-- How the program's Build ends, sound or not. -/
def BldO (w : World) (G : GG) (cd pl : Int) (e : Ending) (w' : World) : Prop := ∃ x1 x2 x3 x4 d1 d2 d3 d4 As Es, e = .returned (.tuple #[.agg #[.string (str G.name), .slice x1 G.actors.length d1, .slice x2 G.edges.length d2, .slice x3 G.ins.length d3, .slice x4 G.outs.length d4], .agg #[.int .i64 cd, .int .i64 pl]]) ∧ BO w.heap.size w' G x1 x2 x3 x4 d1 d2 d3 d4 As Es ∧ Below w.heap.size w w'
theorem own_none {B : Nat} {w : World} : GOwn B w (.slice none 0 0) (.slice none 0 0) (.slice none 0 0) (.slice none 0 0) [] [] [] [] :=
  ⟨⟨World.ownsRow_nil _ _ _ _, World.ownsRow_nil _ _ _ _, World.ownsRow_nil _ _ _ _, World.ownsRow_nil _ _ _ _, NB.nilL _, NB.nilL _, NB.nilL _, NB.nilL _, NB.nilL _, NB.nilL _⟩, fun p hp => by (cases hp), fun p hp => by (cases hp), List.Pairwise.nil, fun q hq => by (cases hq)⟩
theorem bld_one (nm : List UInt8) (a : Option Addr) (n c : Nat) (L : List (Itm × Value)) (w : World) (hn : L.length = n) (h : ItR w a L) (hO : ItO w L) (hl : n ≤ 2000000) {K : List Itm} (hK : L.map Prod.fst = K) {cd pl : Int} (hB : (buildS nm K).2 = (cd, pl)) :
    Calls Tryz.prog 23 #[.agg #[.string (str nm), .slice a n c]] w (BldO w (bG nm K) cd pl) := by
  refine (build_any nm a n c L w hn h hO hl).mono fun e w' he => ?_
  unfold BuildE at he
  rw [hK] at he
  by_cases h0 : (buildS nm K).2.1 = 0
  · rw [if_pos h0] at he
    obtain ⟨v1, v2, v3, v4, As, Es, rfl, hw, hA, hE, nA, nE, hb⟩ := he
    obtain ⟨e1, -⟩ := build_zero h0
    have eg : bG nm K = lookS nm K := if_pos h0
    rw [e1] at hw hA hE hB
    obtain ⟨z1, f1, rfl⟩ := own_slice hw.rw.r1
    obtain ⟨z2, f2, rfl⟩ := own_slice hw.rw.r2
    obtain ⟨z3, f3, rfl⟩ := own_slice hw.rw.r3
    obtain ⟨z4, f4, rfl⟩ := own_slice hw.rw.r4
    have hO : BO w.heap.size w' (bG nm K) z1 z2 z3 z4 f1 f2 f3 f4 As Es := by rw [eg]; exact ⟨hw, hA, hE, nA, nE⟩
    refine ⟨z1, z2, z3, z4, f1, f2, f3, f4, As, Es, ?_, hO, hb⟩
    rw [← hO.la, ← hO.le, eg]
    cases hB
    rfl
  · rw [if_neg h0] at he
    obtain ⟨rfl, hb⟩ := he
    have eg : bG nm K = gg0 := if_neg h0
    refine ⟨none, none, none, none, 0, 0, 0, 0, [], [], ?_, ?_, hb⟩
    · rw [eg, hB]
      rfl
    · rw [eg]
      exact ⟨own_none, rfl, rfl, fun p hp => by (cases hp), fun p hp => by (cases hp)⟩
/-- How the document's Build ends, sound or not. -/
def BldR (w : World) (G : GG) (cd pl : Int) (e : Ending) (w' : World) : Prop := ∃ x1 x2 x3 x4 d1 d2 d3 d4, e = .returned (.tuple #[.agg #[.string (str G.name), .slice x1 G.actors.length d1, .slice x2 G.edges.length d2, .slice x3 G.ins.length d3, .slice x4 G.outs.length d4], .agg #[.int .i64 cd, .int .i64 pl]]) ∧ (∀ w9 : World, (∀ k, w.heap.size ≤ k → k < w'.heap.size → w9.heap[k]? = w'.heap[k]?) → GrG w9 x1 x2 x3 x4 G) ∧ Below w.heap.size w w'
theorem gr_none {w : World} : GrG w none none none none gg0 := ⟨.inl rfl, .inl rfl, .inl rfl, .inl rfl, Nat.zero_le _, Nat.zero_le _, Nat.zero_le _, Nat.zero_le _⟩
theorem rbld_one (nm : List UInt8) (a : Option Addr) (n c : Nat) (L : List (Itm × Value)) (w : World) (hn : L.length = n) (h : ItR w a L) (hO : ItO w L) (hl : n ≤ 2000000) {cd pl : Int} (hB : (buildS nm (L.map Prod.fst)).2 = (cd, pl)) :
    Calls Tryz.prog 26 #[.agg #[.string (str nm), .slice a n c]] w (BldR w (bG nm (L.map Prod.fst)) cd pl) := by
  refine (rbuild_any nm a n c L w hn h hO hl).mono fun e w' he => ?_
  unfold RBldE at he
  by_cases h0 : (buildS nm (L.map Prod.fst)).2.1 = 0
  · rw [if_pos h0] at he
    obtain ⟨e1, -⟩ := build_zero h0
    have eg : bG nm (L.map Prod.fst) = lookS nm (L.map Prod.fst) := if_pos h0
    rw [e1] at hB
    obtain ⟨z1, z2, z3, z4, f1, f2, f3, f4, rfl, hg, hb⟩ := he
    refine ⟨z1, z2, z3, z4, f1, f2, f3, f4, ?_, by rw [eg]; exact hg, hb⟩
    rw [eg]
    cases hB
    rfl
  · rw [if_neg h0] at he
    obtain ⟨rfl, hb⟩ := he
    have eg : bG nm (L.map Prod.fst) = gg0 := if_neg h0
    refine ⟨none, none, none, none, 0, 0, 0, 0, ?_, fun _ _ => by rw [eg]; exact gr_none, hb⟩
    rw [eg, hB]
    rfl
theorem BO.short {B w G x1 x2 x3 x4 d1 d2 d3 d4 As Es} (h : BO B w G x1 x2 x3 x4 d1 d2 d3 d4 As Es) : ∀ p ∈ elG As Es, p.1.nums.length ≤ 17592186043904 := by
  intro p hp
  rcases List.mem_append.1 hp with hp | hp
  · obtain ⟨q, hq, rfl⟩ := List.mem_map.1 hp
    have := (h.na q hq).2.2
    show q.1.params.length ≤ _
    omega
  · obtain ⟨q, hq, rfl⟩ := List.mem_map.1 hp
    have := (h.ne q hq).2
    show q.1.start.length ≤ _
    omega
/-- Two graphs that were built one after the other lie apart. -/
theorem apart_built {B1 B2 : Nat} {u1 U : World} {G : GG} {x1 x2 x3 x4 z1 z2 z3 z4 : Option Addr} {d1 d2 d3 d4 f1 f2 f3 f4 : Nat} {As Bs : List (GA × Value)} {Es Fs : List (GE × Value)} (h1 : BO B1 u1 G x1 x2 x3 x4 d1 d2 d3 d4 As Es) (b1 : Below u1.heap.size u1 U) (h2 : BO B2 U G z1 z2 z3 z4 f1 f2 f3 f4 Bs Fs) (hB : B1 ≤ u1.heap.size) (hb : u1.heap.size ≤ B2) (hU : B2 ≤ U.heap.size) (l1 : G.actors.length ≤ 32) (l2 : G.edges.length ≤ 96) (l3 : G.ins.length ≤ 16) (l4 : G.outs.length ≤ 16) :
    Calls Tryz.prog 14 #[.agg #[.string (str G.name), .slice x1 G.actors.length d1, .slice x2 G.edges.length d2, .slice x3 G.ins.length d3, .slice x4 G.outs.length d4], .agg #[.string (str G.name), .slice z1 G.actors.length f1, .slice z2 G.edges.length f2, .slice z3 G.ins.length f3, .slice z4 G.outs.length f4]] U fun e w' => e = .returned (.bool true) ∧ Below B1 U w' := by
  have e1 := h1.la
  have e2 := h1.le
  have e3 := h2.la
  have e4 := h2.le
  have q := apartGraphs_any B1 B2 (str G.name) (str G.name) x1 x2 x3 x4 z1 z2 z3 z4 d1 d2 d3 d4 f1 f2 f3 f4 As Bs Es Fs G.ins G.outs G.ins G.outs U (h1.later b1).own h2.own (by omega) hU (fun k e => by
      rcases e with e | e | e | e
      · have := own_lt h1.own.rw.r1 k e; omega
      · have := own_lt h1.own.rw.r2 k e; omega
      · have := own_lt h1.own.rw.r3 k e; omega
      · have := own_lt h1.own.rw.r4 k e; omega) (fun p hp k e => by have := own_lt (elG_own h1.own p hp) k e; omega) (fun p hp => by
      rcases List.mem_append.1 hp with hp | hp
      · exact h1.short p hp
      · exact h2.short p hp) (by omega) (by omega) (by omega) (by omega) (by omega) (by omega) (by omega) (by omega)
  rw [e1, e2, e3, e4] at q
  exact q
end Go.Proofs.YtolpelfdhcccnaaGreatDoor

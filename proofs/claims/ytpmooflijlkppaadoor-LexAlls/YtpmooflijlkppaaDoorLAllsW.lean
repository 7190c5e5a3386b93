/- Two rows of tokens that lie apart; LexAlls. (Written by tmpl/merge.py of LApM, LApW, LAlls.) -/
import Derived.Test.YtpmooflijlkppaaDoorLSame
import Derived.Test.YtpmooflijlkppaaDoorAppT
import Derived.Test.YtpmooflijlkppaaDoorLRAll
namespace Go.Proofs.YtpmooflijlkppaaDoor
open Go.ChangeShapes Go.WideShapes Go.ChangeAt Go.RowKit

theorem flat_set : ∀ (ts : List Tok) (k : Nat) (t : Tok), k < ts.length → ((((ts.flatMap tokC).set (k * 4) (.int .u8 t.sort)).set (k * 4 + 1) (.string (str t.text))).set (k * 4 + 2) (.int .i64 t.num)).set (k * 4 + 3) (.int .i64 t.place) = (ts.set k t).flatMap tokC
  | [], k, t, h => by simp at h
  | x :: r, 0, t, _ => by
    rw [List.flatMap_cons]
    show _ = ((t :: r).flatMap tokC)
    rw [List.flatMap_cons]
    rfl
  | x :: r, k + 1, t, h => by
    have e := flat_set r k t (by simp at h; omega)
    have e0 : (k + 1) * 4 = k * 4 + 4 := by omega
    rw [List.flatMap_cons, e0]
    show _ = ((x :: r.set k t).flatMap tokC)
    rw [List.flatMap_cons, ← e]
    rfl
structure Ap (B : Nat) (w wr : World) (a b : Option Addr) (As Bs : List Tok) (c d : Value) (ys zs : List Tok) : Prop where
  bel : Below B w wr
  tc : Toks B wr c ys
  td : Toks B wr d zs
  ta : AtT wr a As
  tb : AtT wr b Bs
  ac : As = [] ∨ ∃ g, a = some ⟨g, 0, none⟩ ∧ g < wr.heap.size ∧ d.ownBlock ≠ some g ∧ (c.ownBlock = some g → As <+: ys)
  bd : Bs = [] ∨ ∃ g, b = some ⟨g, 0, none⟩ ∧ g < wr.heap.size ∧ c.ownBlock ≠ some g ∧ (d.ownBlock = some g → Bs <+: zs)
  cd : ∀ g, c.ownBlock = some g → d.ownBlock ≠ some g
  low : B ≤ w.heap.size
theorem Ap.swap {B w wr a b As Bs c d ys zs} (h : Ap B w wr a b As Bs c d ys zs) : Ap B w wr b a Bs As d c zs ys :=
  ⟨h.bel, h.td, h.tc, h.tb, h.ta, h.bd, h.ac, fun g h1 h2 => h.cd g h2 h1, h.low⟩
theorem AtT.block {w w' : World} {a : Option Addr} {ts : List Tok} (h : AtT w a ts) (hb : ∀ x, a = some x → w'.heap[x.block]? = w.heap[x.block]?) : AtT w' a ts := by
  rcases h with h | ⟨g, off, rfl, hc⟩
  · exact Or.inl h
  · refine Or.inr ⟨g, off, rfl, fun k hk => ?_⟩
    have e := hb _ rfl
    have f : ∀ o, w'.cell? ⟨g, o, none⟩ = w.cell? ⟨g, o, none⟩ := fun o => by unfold World.cell?; rw [e]
    obtain ⟨c0, c1, c2, c3⟩ := hc k hk
    exact ⟨(f _).trans c0, (f _).trans c1, (f _).trans c2, (f _).trans c3⟩
theorem AtT.pre {w : World} {a : Option Addr} {ts us : List Tok} (h : AtT w a us) (hp : ts <+: us) : AtT w a ts := by
  obtain ⟨r, rfl⟩ := hp
  have := h.take ts.length
  rwa [List.take_left] at this
theorem Toks.own {B w v ts} (h : Toks B w v ts) {g : Nat} (hg : v.ownBlock = some g) : (∃ n cap, v = .slice (some ⟨g, 0, none⟩) n cap) ∧ B ≤ g ∧ g < w.heap.size := by
  rcases h.2 with ⟨rfl, -⟩ | ⟨g', cap, cur, rfl, hb, hh, -⟩
  · cases hg
  · cases hg
    exact ⟨⟨_, _, rfl⟩, hb, (Array.getElem?_eq_some_iff.1 hh).1⟩
/-- The row c (which may still lie where a lies) is another one now; nothing else has changed but its own block. -/
theorem Ap.step {B w wr a b As Bs c d ys zs} (h : Ap B w wr a b As Bs c d ys zs) {w2 : World} {c' : Value} {ys' : List Tok} {g : Nat} (hc : c.ownBlock = some g) (hc' : c'.ownBlock = some g) (ho : Toks B w2 c' ys') (hg : wr.grownBy w2 (some g)) (hp : ys <+: ys') : Ap B w w2 a b As Bs c' d ys' zs := by
  have hB : B ≤ g := (h.tc.own hc).2.1
  have hs : w.heap.size ≤ wr.heap.size := h.bel.size
  have hlow := h.low
  refine ⟨below_grownO h.bel hg (fun k e => by cases e; exact hB) (by omega), ho, World.ownsRow.kept h.td hg (Or.inr (h.cd g hc)), ?_, ?_, ?_, ?_, ?_, h.low⟩
  · rcases h.ac with e | ⟨ga, rfl, hlt, hd, hpre⟩
    · exact Or.inl e
    · by_cases e : ga = g
      · subst e
        obtain ⟨n, cap, rfl⟩ := (ho.own hc').1
        obtain ⟨a', cap', he, hat⟩ := ho.at
        cases he
        exact hat.pre ((hpre hc).trans hp)
      · exact h.ta.block (fun x hx => by cases hx; exact hg.block _ hlt (fun e2 => e (Option.some.inj e2)))
  · rcases h.bd with e | ⟨gb, rfl, hlt, hcb, hpre⟩
    · exact Or.inl e
    · exact h.tb.block (fun x hx => by cases hx; exact hg.block _ hlt (fun e2 => hcb (by rw [hc, e2])))
  · rcases h.ac with e | ⟨ga, rfl, hlt, hd, hpre⟩
    · exact Or.inl e
    · exact Or.inr ⟨ga, rfl, Nat.lt_of_lt_of_le hlt hg.size, hd, fun e => (hpre (by rw [hc, ← hc', e])).trans hp⟩
  · rcases h.bd with e | ⟨gb, rfl, hlt, hcb, hpre⟩
    · exact Or.inl e
    · exact Or.inr ⟨gb, rfl, Nat.lt_of_lt_of_le hlt hg.size, by rw [hc', ← hc]; exact hcb, hpre⟩
  · intro g' e
    exact h.cd g' (by rw [hc, ← hc', e])
theorem Ap.alloc {B w wr a b As Bs c d ys zs} (h : Ap B w wr a b As Bs c d ys zs) (o : Obj) : Ap B w (wr.alloc o) a b As Bs c d ys zs := by
  have hb := (Below.refl wr.heap.size wr).alloc (Nat.le_refl _) o
  have hs : w.heap.size ≤ wr.heap.size := h.bel.size
  refine ⟨h.bel.trans (hb.mono (by have := h.low; omega)), h.tc.below hb, h.td.below hb, h.ta.below hb, h.tb.below hb, ?_, ?_, h.cd, h.low⟩
  · rcases h.ac with e | ⟨ga, rfl, hlt, r⟩
    · exact Or.inl e
    · exact Or.inr ⟨ga, rfl, Nat.lt_of_lt_of_le hlt hb.size, r⟩
  · rcases h.bd with e | ⟨gb, rfl, hlt, r⟩
    · exact Or.inl e
    · exact Or.inr ⟨gb, rfl, Nat.lt_of_lt_of_le hlt hb.size, r⟩
/-- One token more behind the row c. -/
theorem Ap.grow {B w wr a b As Bs c d ys zs} (h : Ap B w wr a b As Bs c d ys zs) {w2 : World} {c' : Value} {t : Tok} (hown : w2.ownsRow B 54 4 c' (ys.length + 1) (ys.flatMap tokC ++ tokC t))
    (ht : (∃ g cap, c = .slice (some ⟨g, 0, none⟩) ys.length cap ∧ c' = .slice (some ⟨g, 0, none⟩) (ys.length + 1) cap ∧ wr.grownBy w2 (some g)) ∨ (∃ cap, c' = .slice (some ⟨wr.heap.size, 0, none⟩) (ys.length + 1) cap ∧ wr.grownBy w2 none)) :
    Ap B w w2 a b As Bs c' d (ys ++ [t]) zs := by
  have ho : Toks B w2 c' (ys ++ [t]) := by unfold Toks; rw [List.flatMap_append, List.length_append]; simpa [List.flatMap] using hown
  rcases ht with ⟨g, cap, rfl, rfl, hg⟩ | ⟨cap, rfl, hg⟩
  · exact h.step rfl rfl ho hg ⟨[t], rfl⟩
  · have hs : w.heap.size ≤ wr.heap.size := h.bel.size
    have hlow := h.low
    have hne : ∀ {k : Nat}, k < wr.heap.size → w2.heap[k]? = wr.heap[k]? := fun hk => hg.block _ hk (fun e => by cases e)
    refine ⟨below_grownO h.bel hg (fun k e => by cases e) (by omega), ho, World.ownsRow.kept h.td hg (Classical.em (d.ownBlock = none)), ?_, ?_, ?_, ?_, ?_, h.low⟩
    · rcases h.ac with e | ⟨ga, rfl, hlt, r⟩
      · exact Or.inl e
      · exact h.ta.block (fun x hx => by cases hx; exact hne hlt)
    · rcases h.bd with e | ⟨gb, rfl, hlt, r⟩
      · exact Or.inl e
      · exact h.tb.block (fun x hx => by cases hx; exact hne hlt)
    · rcases h.ac with e | ⟨ga, rfl, hlt, hd, -⟩
      · exact Or.inl e
      · refine Or.inr ⟨ga, rfl, Nat.lt_of_lt_of_le hlt hg.size, hd, fun e => ?_⟩
        have : wr.heap.size = ga := Option.some.inj e
        omega
    · rcases h.bd with e | ⟨gb, rfl, hlt, -, r⟩
      · exact Or.inl e
      · refine Or.inr ⟨gb, rfl, Nat.lt_of_lt_of_le hlt hg.size, fun e => ?_, r⟩
        have : wr.heap.size = gb := Option.some.inj e
        omega
    · intro g e e2
      have h1 : wr.heap.size = g := Option.some.inj e
      have := (h.td.own e2).2.2
      omega
/-- A token put into the row a, which is still the row c. -/
theorem Ap.put {B w wr b As Bs d zs g n cap} (h : Ap B w wr (some ⟨g, 0, none⟩) b As Bs (.slice (some ⟨g, 0, none⟩) n cap) d As zs) (hn : As.length = n) {k : Nat} (hk : k < n) (t : Tok) :
    Ap B w ((((wr.setCell ⟨g, k * 4, none⟩ (.int .u8 t.sort)).setCell ⟨g, k * 4 + 1, none⟩ (.string (str t.text))).setCell ⟨g, k * 4 + 2, none⟩ (.int .i64 t.num)).setCell ⟨g, k * 4 + 3, none⟩ (.int .i64 t.place)) (some ⟨g, 0, none⟩) b (As.set k t) Bs (.slice (some ⟨g, 0, none⟩) n cap) d (As.set k t) zs := by
  subst hn
  obtain ⟨o1, g1⟩ := World.ownsRow.stored h.tc (k * 4) (.int .u8 t.sort)
  obtain ⟨o2, g2⟩ := World.ownsRow.stored o1 (k * 4 + 1) (.string (str t.text))
  obtain ⟨o3, g3⟩ := World.ownsRow.stored o2 (k * 4 + 2) (.int .i64 t.num)
  obtain ⟨o4, g4⟩ := World.ownsRow.stored o3 (k * 4 + 3) (.int .i64 t.place)
  rw [flat_set As k t hk] at o4
  have hg := Lib.grownBy_trans (Lib.grownBy_trans (Lib.grownBy_trans g1 g2) g3) g4
  generalize (((wr.setCell ⟨g, k * 4, none⟩ (.int .u8 t.sort)).setCell ⟨g, k * 4 + 1, none⟩ (.string (str t.text))).setCell ⟨g, k * 4 + 2, none⟩ (.int .i64 t.num)).setCell ⟨g, k * 4 + 3, none⟩ (.int .i64 t.place) = w2 at *
  have ho : Toks B w2 (.slice (some ⟨g, 0, none⟩) As.length cap) (As.set k t) := by unfold Toks; rw [List.length_set]; exact o4
  have hB : B ≤ g := (h.tc.own rfl).2.1
  have hlt : g < wr.heap.size := (h.tc.own rfl).2.2
  have hs : w.heap.size ≤ wr.heap.size := h.bel.size
  have hlow := h.low
  refine ⟨below_grownO h.bel hg (fun k e => by cases e; exact hB) (by omega), ho, World.ownsRow.kept h.td hg (Or.inr (h.cd g rfl)), ?_, ?_, ?_, ?_, h.cd, h.low⟩
  · obtain ⟨a', cap', he, hat⟩ := ho.at
    injection he with e1
    rw [← e1] at hat
    exact hat
  · rcases h.bd with e | ⟨gb, rfl, hlt, hcb, hpre⟩
    · exact Or.inl e
    · exact h.tb.block (fun x hx => by cases hx; exact hg.block _ hlt (fun e2 => hcb (by rw [e2]; rfl)))
  · exact Or.inr ⟨g, rfl, Nat.lt_of_lt_of_le hlt hg.size, h.cd g rfl, fun _ => ⟨[], by simp⟩⟩
  · rcases h.bd with e | ⟨gb, rfl, hlt, hcb, hpre⟩
    · exact Or.inl e
    · exact Or.inr ⟨gb, rfl, Nat.lt_of_lt_of_le hlt hg.size, hcb, hpre⟩
/-- The marks. -/
def mkT (s : Int) (k : Nat) : Tok := ⟨s, [], (k : Int), 0⟩
def tlT (s : Int) (k : Nat) : List Tok := (List.range k).map (mkT s)
theorem tlT_len (s : Int) (k : Nat) : (tlT s k).length = k := by simp [tlT]
theorem tlT_succ (s : Int) (k : Nat) : tlT s k ++ [mkT s k] = tlT s (k + 1) := by simp [tlT, List.range_succ]
theorem nthT_set_eq {ts : List Tok} {k : Nat} {t : Tok} (h : k < ts.length) : nthT (ts.set k t) k = t := by
  unfold nthT
  rw [List.getD_eq_getElem?_getD, List.getElem?_set_self h]
  rfl
theorem nthT_set_ne {ts : List Tok} {k j : Nat} {t : Tok} (h : k ≠ j) : nthT (ts.set k t) j = nthT ts j := by
  unfold nthT
  rw [List.getD_eq_getElem?_getD, List.getD_eq_getElem?_getD, List.getElem?_set_ne h]
theorem nthT_tail {ts : List Tok} {s : Int} {n k m : Nat} (hn : ts.length = n) (h : k < m) : nthT (ts ++ tlT s m) (n + k) = mkT s k := by
  unfold nthT
  subst hn
  rw [List.getD_eq_getElem?_getD, List.getElem?_append_right (by omega), show ts.length + k - ts.length = k by omega]
  unfold tlT
  rw [List.getElem?_map, List.getElem?_range h]
  rfl
theorem Ap.frozen {B w wr b As Bs d zs ys g n cap} {a : Option Addr} (h : Ap B w wr a b As Bs (.slice (some ⟨g, 0, none⟩) n cap) d ys zs) (j : Nat) : wr.frozen? ⟨g, j, none⟩ = false := by
  rcases h.tc.2 with ⟨h', _⟩ | ⟨g', cap', cur, h', -, hg, -⟩
  · cases h'
  · cases h'
    simp [World.frozen?, hg]
theorem Toks.cells4 {B w v ts} (h : Toks B w v ts) (hn : ts ≠ []) : ∃ g cap, v = .slice (some ⟨g, 0, none⟩) ts.length cap ∧ ∀ k, k < ts.length → Cell4 w g (k * 4) (nthT ts k) := by
  obtain ⟨g, cap, he, hc⟩ := h.open hn
  refine ⟨g, cap, he, fun k hk => ?_⟩
  have f : ∀ r u, r < 4 → (tokC (nthT ts k))[r]? = some u → w.cell? ⟨g, k * 4 + r, none⟩ = some u := fun r u hr hu => hc _ u (by rw [flat_get ts k r hk hr]; exact hu)
  exact ⟨f 0 _ (by decide) rfl, f 1 _ (by decide) rfl, f 2 _ (by decide) rfl, f 3 _ (by decide) rfl⟩
/-- Where the row a lies. -/
theorem Ap.at {B w wr a b As Bs c d ys zs} (h : Ap B w wr a b As Bs c d ys zs) (hn : As ≠ []) : ∃ g, a = some ⟨g, 0, none⟩ ∧ ∀ k, k < As.length → Cell4 wr g (k * 4) (nthT As k) := by
  rcases h.ac with e | ⟨g, rfl, -⟩
  · exact absurd e hn
  · refine ⟨g, rfl, fun k hk => ?_⟩
    rcases h.ta with e | ⟨g', off, he, hc⟩
    · exact absurd e hn
    · injection he with he
      injection he with e1 e2
      subst e1
      subst e2
      have := hc k hk
      rwa [Nat.zero_add] at this
set_option maxRecDepth 100000 in
set_option maxHeartbeats 8000000 in
theorem apart_toks (B : Nat) (w : World) (a b : Option Addr) (n m ca cb : Nat) (As Bs : List Tok) (h : Ap B w w a b As Bs (.slice a n ca) (.slice b m cb) As Bs) (hn : As.length = n) (hm : Bs.length = m) (hl : n ≤ 2000000) (hl2 : m ≤ 2000000) :
    Calls Tryd.prog 11 #[.slice a n ca, .slice b m cb] w fun e w' => e = .returned (.bool true) ∧ Below B w w' := by
  have H0 := hidden h
  have hI : (n : Int) ≤ 2000000 := by omega
  have hI2 : (m : Int) ≤ 2000000 := by omega
  have hI0 : (0 : Int) ≤ (n : Int) := by omega
  have hI20 : (0 : Int) ≤ (m : Int) := by omega
  clear h
  go_enter Tryd.func11, Tryd.ntmps11
  go_wp2
  go_loopg [5] n (fun gk v wr => ∃ (k : Nat) (Xs : List Tok), k ≤ n ∧ gk = n - k ∧ v = .int .i64 (k : Int) ∧ Xs.length = n ∧ Ap B w wr a b Xs Bs (.slice a n ca) (.slice b m cb) Xs Bs ∧ ∀ j, j < k → nthT Xs j = mkT 77 j)
  case atStart => exact ⟨0, As, Nat.zero_le _, rfl, rfl, hn, H0.out, fun j hj => by omega⟩
  case round =>
    clear H0
    obtain ⟨k, Xs, hk, rfl, rfl, hXn, hap, hmk⟩ := hrel
    have HMK := hidden hmk
    have HAP := hidden hap
    clear hmk hap
    by_cases hlt : k < n
    · have hki : (k : Int) < (n : Int) := by omega
      obtain ⟨g, rfl, hc4⟩ := HAP.out.at (by intro e; rw [e] at hXn; simp at hXn; omega)
      obtain ⟨c0, c1, c2, c3⟩ := hc4 k (by omega)
      have f0 := HAP.out.frozen (k * 4)
      have f1 := HAP.out.frozen (k * 4 + 1)
      have f2 := HAP.out.frozen (k * 4 + 2)
      have f3 := HAP.out.frozen (k * 4 + 3)
      have HP := hidden (HAP.out.put hXn hlt (mkT 77 k))
      clear hc4 HAP
      go_wp2
      go_roundg (n - (k + 1))
      case measure => omega
      case rel => exact ⟨k + 1, Xs.set k (mkT 77 k), by omega, rfl, by go_num, by rw [List.length_set]; exact hXn, HP.out, fun j hj => by
        by_cases e : k = j
        · subst e; exact nthT_set_eq (by omega)
        · rw [nthT_set_ne e]; exact HMK.out j (by omega)⟩
    · have ek : k = n := by omega
      subst ek
      have hki : ¬ ((k : Int) < (k : Int)) := by omega
      generalize k = n at *
      clear hlt hk
      go_wp2
      go_loopg [6] m (fun gk v wr => ∃ (k : Nat) (Ys : List Tok), k ≤ m ∧ gk = m - k ∧ v = .int .i64 (k : Int) ∧ Ys.length = m ∧ Ap B w wr a b Xs Ys (.slice a n ca) (.slice b m cb) Xs Ys ∧ ∀ j, j < k → nthT Ys j = mkT 78 j)
      case atStart => exact ⟨0, Bs, Nat.zero_le _, rfl, rfl, hm, HAP.out, fun j hj => by omega⟩
      case round =>
        clear HAP hki
        obtain ⟨k, Ys, hk, rfl, rfl, hYm, hap, hmk⟩ := hrel
        have HMK2 := hidden hmk
        have HAP := hidden hap
        clear hmk hap
        by_cases hlt : k < m
        · have hki : (k : Int) < (m : Int) := by omega
          obtain ⟨g, rfl, hc4⟩ := HAP.out.swap.at (by intro e; rw [e] at hYm; simp at hYm; omega)
          obtain ⟨c0, c1, c2, c3⟩ := hc4 k (by omega)
          have f0 := HAP.out.swap.frozen (k * 4)
          have f1 := HAP.out.swap.frozen (k * 4 + 1)
          have f2 := HAP.out.swap.frozen (k * 4 + 2)
          have f3 := HAP.out.swap.frozen (k * 4 + 3)
          have HP := hidden (HAP.out.swap.put hYm hlt (mkT 78 k)).swap
          clear hc4 HAP
          go_wp2
          go_roundg (m - (k + 1))
          case measure => omega
          case rel => exact ⟨k + 1, Ys.set k (mkT 78 k), by omega, rfl, by go_num, by rw [List.length_set]; exact hYm, HP.out, fun j hj => by
            by_cases e : k = j
            · subst e; exact nthT_set_eq (by omega)
            · rw [nthT_set_ne e]; exact HMK2.out j (by omega)⟩
        · have ek : k = m := by omega
          subst ek
          have hki : ¬ ((k : Int) < (k : Int)) := by omega
          generalize k = m at *
          clear hlt hk
          go_wp2
          clear hki
          have HS3 : Hid (Ap B w wr a b Xs Ys (.slice a n ca) (.slice b m cb) (Xs ++ tlT 79 0) Ys) := by
            show Ap B w wr a b Xs Ys (.slice a n ca) (.slice b m cb) (Xs ++ tlT 79 0) Ys
            have e : Xs ++ tlT 79 0 = Xs := by simp [tlT]
            rw [e]
            exact HAP.out
          clear HAP
          go_loopg [7, 9] 16 (fun gk c i wr => ∃ (k : Nat), k ≤ 16 ∧ gk = 16 - k ∧ i = .int .i64 (k : Int) ∧ Ap B w wr a b Xs Ys c (.slice b m cb) (Xs ++ tlT 79 k) Ys)
          case atStart => exact ⟨0, Nat.zero_le _, rfl, rfl, HS3.out⟩
          case round =>
            clear HS3
            obtain ⟨k, hk, rfl, rfl, hap⟩ := hrel
            have HAP := hidden hap
            clear hap
            by_cases hlt : k < 16
            · have hki : (k : Int) < 16 := by omega
              have hlen : (Xs ++ tlT 79 k).length = n + k := by rw [List.length_append, tlT_len, hXn]
              have hlow : B ≤ wr.heap.size := by have := HAP.out.low; have := HAP.out.bel.size; omega
              obtain ⟨i0, hi, hz0, hz1, hz2⟩ := info_parts Tryd.infoTK
              have HI := hidden hi
              have HI0 := hidden hz0
              have HI1 := hidden hz1
              have HI2 := hidden hz2
              clear hi hz0 hz1 hz2
              go_wp2_with (at_builtin; refine wpList_append_told _ rfl (.tmp 42) (.tmp 45) 22 rfl B 54 i0 (.agg #[.int .u8 0, .string ⟨#[]⟩, .int .i64 0, .int .i64 0]) 4 40 Tryd.underlying22 HI.out HI0.out HI1.out HI2.out rfl (by decide) _ (Xs ++ tlT 79 k).length _ rfl (HAP.out.alloc _).tc ⟨wr.heap.size, 0, none⟩ 1 1 (by decide) (tokC (mkT 79 k)) rfl rfl (tok_news1 wr _ _ _ _ _) (tok_one _) (by unfold maxLen; omega) (by omega) (by simp; omega) ?_; intro v' w2 hown htold; have K8 : Hid (Ap B w w2 a b Xs Ys v' (.slice b m cb) (Xs ++ tlT 79 k ++ [mkT 79 k]) Ys) := (HAP.out.alloc _).grow hown htold; clear hown htold)
              go_roundg (16 - (k + 1))
              case measure => omega
              case rel => exact ⟨k + 1, by omega, rfl, by go_num, by rw [← tlT_succ 79 k, ← List.append_assoc]; exact K8.out⟩
            · have ek : k = 16 := by omega
              subst ek
              have hki : ¬ ((16 : Int) < 16) := by omega
              clear hki hlt hk
              go_wp2
              have HS3 : Hid (Ap B w wr a b Xs Ys u7 (.slice b m cb) (Xs ++ tlT 79 16) (Ys ++ tlT 80 0)) := by
                show Ap B w wr a b Xs Ys u7 (.slice b m cb) (Xs ++ tlT 79 16) (Ys ++ tlT 80 0)
                have e : Ys ++ tlT 80 0 = Ys := by simp [tlT]
                rw [e]
                exact HAP.out
              clear HAP
              go_loopg [8, 10] 16 (fun gk c i wr => ∃ (k : Nat), k ≤ 16 ∧ gk = 16 - k ∧ i = .int .i64 (k : Int) ∧ Ap B w wr a b Xs Ys u7 c (Xs ++ tlT 79 16) (Ys ++ tlT 80 k))
              case atStart => exact ⟨0, Nat.zero_le _, rfl, rfl, HS3.out⟩
              case round =>
                clear HS3
                obtain ⟨k, hk, rfl, rfl, hap⟩ := hrel
                have HAP := hidden hap
                clear hap
                by_cases hlt : k < 16
                · have hki : (k : Int) < 16 := by omega
                  have hlen : (Ys ++ tlT 80 k).length = m + k := by rw [List.length_append, tlT_len, hYm]
                  have hlow : B ≤ wr.heap.size := by have := HAP.out.low; have := HAP.out.bel.size; omega
                  obtain ⟨i0, hi, hz0, hz1, hz2⟩ := info_parts Tryd.infoTK
                  have HI := hidden hi
                  have HI0 := hidden hz0
                  have HI1 := hidden hz1
                  have HI2 := hidden hz2
                  clear hi hz0 hz1 hz2
                  go_wp2_with (at_builtin; refine wpList_append_told _ rfl (.tmp 51) (.tmp 54) 22 rfl B 54 i0 (.agg #[.int .u8 0, .string ⟨#[]⟩, .int .i64 0, .int .i64 0]) 4 40 Tryd.underlying22 HI.out HI0.out HI1.out HI2.out rfl (by decide) _ (Ys ++ tlT 80 k).length _ rfl (HAP.out.alloc _).td ⟨wr.heap.size, 0, none⟩ 1 1 (by decide) (tokC (mkT 80 k)) rfl rfl (tok_news1 wr _ _ _ _ _) (tok_one _) (by unfold maxLen; omega) (by omega) (by simp; omega) ?_; intro v' w2 hown htold; have K8 : Hid (Ap B w w2 a b Xs Ys u7 v' (Xs ++ tlT 79 16) (Ys ++ tlT 80 k ++ [mkT 80 k])) := ((HAP.out.alloc _).swap.grow hown htold).swap; clear hown htold)
                  go_roundg (16 - (k + 1))
                  case measure => omega
                  case rel => exact ⟨k + 1, by omega, rfl, by go_num, by rw [← tlT_succ 80 k, ← List.append_assoc]; exact K8.out⟩
                · have ek : k = 16 := by omega
                  subst ek
                  have hki : ¬ ((16 : Int) < 16) := by omega
                  clear hki hlt hk
                  go_wp2
                  go_loopg [11] n (fun gk v w5 => ∃ (k : Nat), k ≤ n ∧ gk = n - k ∧ v = .int .i64 (k : Int) ∧ w5 = wr)
                  case atStart => exact ⟨0, Nat.zero_le _, rfl, rfl, rfl⟩
                  case round =>
                    obtain ⟨k, hk, rfl, rfl, rfl⟩ := hrel
                    by_cases hlt : k < n
                    · have hki : (k : Int) < (n : Int) := by omega
                      obtain ⟨g, rfl, hc4⟩ := HAP.out.at (by intro e; rw [e] at hXn; simp at hXn; omega)
                      have hc := hc4 k (by omega)
                      rw [HMK.out k hlt] at hc
                      have c0 : wr.cell? ⟨g, k * 4, none⟩ = some (.int .u8 77) := hc.c0
                      have c1 : wr.cell? ⟨g, k * 4 + 1, none⟩ = some (.string ⟨#[]⟩) := hc.c1
                      have c2 : wr.cell? ⟨g, k * 4 + 2, none⟩ = some (.int .i64 (k : Int)) := hc.c2
                      have c3 : wr.cell? ⟨g, k * 4 + 3, none⟩ = some (.int .i64 0) := hc.c3
                      have q1 : ((k : Int) != (k : Int)) = false := by simp
                      have q2 : ((k : Int) == (k : Int)) = true := by simp
                      clear hc4 hc
                      go_wp2
                      go_roundg (n - (k + 1))
                      case measure => omega
                      case rel => exact ⟨k + 1, by omega, rfl, by go_num, rfl⟩
                    · have ek : k = n := by omega
                      subst ek
                      have hki : ¬ ((k : Int) < (k : Int)) := by omega
                      generalize k = n at *
                      clear hki hlt hk
                      go_wp2
                      go_loopg [12] m (fun gk v w5 => ∃ (k : Nat), k ≤ m ∧ gk = m - k ∧ v = .int .i64 (k : Int) ∧ w5 = wr)
                      case atStart => exact ⟨0, Nat.zero_le _, rfl, rfl, rfl⟩
                      case round =>
                        obtain ⟨k, hk, rfl, rfl, rfl⟩ := hrel
                        by_cases hlt : k < m
                        · have hki : (k : Int) < (m : Int) := by omega
                          obtain ⟨g, rfl, hc4⟩ := HAP.out.swap.at (by intro e; rw [e] at hYm; simp at hYm; omega)
                          have hc := hc4 k (by omega)
                          rw [HMK2.out k hlt] at hc
                          have c0 : wr.cell? ⟨g, k * 4, none⟩ = some (.int .u8 78) := hc.c0
                          have c1 : wr.cell? ⟨g, k * 4 + 1, none⟩ = some (.string ⟨#[]⟩) := hc.c1
                          have c2 : wr.cell? ⟨g, k * 4 + 2, none⟩ = some (.int .i64 (k : Int)) := hc.c2
                          have c3 : wr.cell? ⟨g, k * 4 + 3, none⟩ = some (.int .i64 0) := hc.c3
                          have q1 : ((k : Int) != (k : Int)) = false := by simp
                          have q2 : ((k : Int) == (k : Int)) = true := by simp
                          clear hc4 hc
                          go_wp2
                          go_roundg (m - (k + 1))
                          case measure => omega
                          case rel => exact ⟨k + 1, by omega, rfl, by go_num, rfl⟩
                        · have ek : k = m := by omega
                          subst ek
                          have hki : ¬ ((k : Int) < (k : Int)) := by omega
                          generalize k = m at *
                          clear hki hlt hk
                          have hlc : (Xs ++ tlT 79 16).length = n + 16 := by rw [List.length_append, tlT_len, hXn]
                          have hld : (Ys ++ tlT 80 16).length = m + 16 := by rw [List.length_append, tlT_len, hYm]
                          obtain ⟨gc, kc, hu7, hcc⟩ := HAP.out.tc.cells4 (by intro e; rw [e] at hlc; simp at hlc)
                          obtain ⟨gd, kd, hu8, hdd⟩ := HAP.out.td.cells4 (by intro e; rw [e] at hld; simp at hld)
                          rw [hlc] at hu7
                          rw [hld] at hu8
                          have HC : Hid (∀ k, k < 16 → Cell4 wr gc ((n + k) * 4) (mkT 79 k)) := fun k hk => by
                            have := hcc (n + k) (by omega)
                            rwa [nthT_tail hXn hk] at this
                          have HD : Hid (∀ k, k < 16 → Cell4 wr gd ((m + k) * 4) (mkT 80 k)) := fun k hk => by
                            have := hdd (m + k) (by omega)
                            rwa [nthT_tail hYm hk] at this
                          have HBEL := hidden HAP.out.bel
                          clear hcc hdd HAP hlc hld
                          subst hu7
                          subst hu8
                          go_wp2
                          go_loopg [13] 16 (fun gk v w5 => ∃ (k : Nat), k ≤ 16 ∧ gk = 16 - k ∧ v = .int .i64 (k : Int) ∧ w5 = wr)
                          case atStart => exact ⟨0, Nat.zero_le _, rfl, rfl, rfl⟩
                          case round =>
                            obtain ⟨k, hk, rfl, rfl, rfl⟩ := hrel
                            by_cases hlt : k < 16
                            · have hki : (k : Int) < 16 := by omega
                              have hc := HC.out k hlt
                              have hd := HD.out k hlt
                              obtain ⟨x, hx⟩ : ∃ x, n + k = x := ⟨_, rfl⟩
                              obtain ⟨y, hy⟩ : ∃ y, m + k = y := ⟨_, rfl⟩
                              rw [hx] at hc
                              rw [hy] at hd
                              have xi : (n : Int) + (k : Int) = (x : Int) := by omega
                              have yi : (m : Int) + (k : Int) = (y : Int) := by omega
                              have x0 : (0 : Int) ≤ (x : Int) := by omega
                              have x1 : (x : Int) < (n : Int) + 16 := by omega
                              have y0 : (0 : Int) ≤ (y : Int) := by omega
                              have y1 : (y : Int) < (m : Int) + 16 := by omega
                              have c0 : wr.cell? ⟨gc, x * 4, none⟩ = some (.int .u8 79) := hc.c0
                              have c1 : wr.cell? ⟨gc, x * 4 + 1, none⟩ = some (.string ⟨#[]⟩) := hc.c1
                              have c2 : wr.cell? ⟨gc, x * 4 + 2, none⟩ = some (.int .i64 (k : Int)) := hc.c2
                              have c3 : wr.cell? ⟨gc, x * 4 + 3, none⟩ = some (.int .i64 0) := hc.c3
                              have d0 : wr.cell? ⟨gd, y * 4, none⟩ = some (.int .u8 80) := hd.c0
                              have d1 : wr.cell? ⟨gd, y * 4 + 1, none⟩ = some (.string ⟨#[]⟩) := hd.c1
                              have d2 : wr.cell? ⟨gd, y * 4 + 2, none⟩ = some (.int .i64 (k : Int)) := hd.c2
                              have d3 : wr.cell? ⟨gd, y * 4 + 3, none⟩ = some (.int .i64 0) := hd.c3
                              have q1 : ((k : Int) != (k : Int)) = false := by simp
                              have q2 : ((k : Int) == (k : Int)) = true := by simp
                              clear hc hd hx hy
                              go_wp2
                              go_roundg (16 - (k + 1))
                              case measure => omega
                              case rel => exact ⟨k + 1, by omega, rfl, by go_num, rfl⟩
                            · have ek : k = 16 := by omega
                              subst ek
                              have hki : ¬ ((16 : Int) < 16) := by omega
                              go_wp2
                              go_ret
                              exact ⟨rfl, HBEL.out⟩
theorem all_len : ∀ (n p : Nat) (x : List UInt8), x.length ≤ n → (allL p x).toks.length ≤ x.length + 1
  | 0, p, x, h => by
    have e : x = [] := List.eq_nil_of_length_eq_zero (by omega)
    subst e
    rw [allL_end (by rfl)]
    simp
  | n + 1, p, x, h => by
    by_cases h1 : x.drop (skipN false x) = []
    · rw [allL_end h1]; simp
    · by_cases h2 : (tokO (x.drop (skipN false x))).err = 0
      · obtain ⟨h3, h4, -⟩ := tok_some h2
        rw [List.length_drop] at h4
        have hx : 0 < x.length := by omega
        have ih := all_len n (p + skipN false x + (tokO (x.drop (skipN false x))).n) (x.drop (skipN false x + (tokO (x.drop (skipN false x))).n)) (by rw [List.length_drop]; omega)
        rw [List.length_drop] at ih
        rw [allL_tok h1 h2]
        unfold Got.cons
        split
        · show (_ :: _).length ≤ _
          rw [List.length_cons]; omega
        · omega
      · rw [allL_err h1 h2]; simp
theorem text_len (l : List UInt8) : (textG l).toks.length ≤ 1048577 := by
  unfold textG
  split
  · simp
  · have := all_len l.length 0 l (Nat.le_refl _); omega
/-- A variable of two cells that was made stands behind what is done later. -/
structure Duo (w : World) (n : Nat) (x y : Value) : Prop where
  lt : n < w.heap.size
  c0 : w.cell? ⟨n, 0, none⟩ = some x
  c1 : w.cell? ⟨n, 1, none⟩ = some y
theorem duo_new (w : World) (x y : Value) (T : TypeId) : Duo (w.alloc (.cells #[x, y] T)) w.heap.size x y := ⟨by simp, by simp, by simp⟩
theorem Duo.later {w w' : World} {n : Nat} {x y : Value} (h : Duo w n x y) (hb : Below w.heap.size w w') : Duo w' n x y := ⟨Nat.lt_of_lt_of_le h.lt hb.size, (hb.cell (p := ⟨n, 0, none⟩) h.lt).trans h.c0, (hb.cell (p := ⟨n, 1, none⟩) h.lt).trans h.c1⟩
theorem below_one (w : World) (o : Obj) : Below w.heap.size w (w.alloc o) := (Below.refl _ _).alloc (Nat.le_refl _) _
theorem drewN_below (w : World) (n : Nat) : Below w.heap.size w (w.drewN n) := (Below.refl _ _).trans ⟨rfl, rfl, rfl, Nat.le_refl _, fun _ _ => rfl⟩
theorem Toks.slice_at {base w a n cap ts} (h : Toks base w (.slice a n cap) ts) : AtT w a ts := by
  obtain ⟨a', cap', he, hat⟩ := h.at
  cases he
  exact hat
/-- Two rows of tokens, the second one made behind the first, lie apart. -/
theorem ap_two {B : Nat} {w1 w2 w : World} {a b : Option Addr} {n m ca cb : Nat} {ts us : List Tok} (h1 : Toks B w (.slice a n ca) ts) (h2 : Toks B w (.slice b m cb) us) (h1' : Toks B w1 (.slice a n ca) ts) (h2' : Toks w1.heap.size w2 (.slice b m cb) us) (hB : B ≤ w.heap.size) : Ap B w w a b ts us (.slice a n ca) (.slice b m cb) ts us := by
  have hcd : ∀ g, (Value.slice a n ca).ownBlock = some g → (Value.slice b m cb).ownBlock ≠ some g := fun g e e2 => by
    have q1 := (h1'.own e).2.2
    have q2 := (h2'.own e2).2.1
    omega
  refine ⟨Below.refl _ _, h1, h2, h1.slice_at, h2.slice_at, ?_, ?_, hcd, hB⟩
  · by_cases e : ts = []
    · exact Or.inl e
    · obtain ⟨g, cap, he, -⟩ := h1.open e
      cases he
      exact Or.inr ⟨g, rfl, (h1.own rfl).2.2, hcd g rfl, fun _ => ⟨[], by simp⟩⟩
  · by_cases e : us = []
    · exact Or.inl e
    · obtain ⟨g, cap, he, -⟩ := h2.open e
      cases he
      exact Or.inr ⟨g, rfl, (h2.own rfl).2.2, fun e2 => hcd g e2 rfl, fun _ => ⟨[], by simp⟩⟩

set_option maxRecDepth 100000 in
set_option maxHeartbeats 4000000 in
theorem lexAlls_walk (l : List UInt8) (w : World) (hE : Env w) : Calls Tryd.prog 3 #[.string (str l)] w fun e w' => e = .returned (.bool true) ∧ Below w.heap.size w w' := by
  have A1 : Hid (∀ W, Env W → Calls Tryd.prog 7 #[.string (str l)] W (AllEnd W l)) := fun W hW => all_any l W hW
  have A2 : Hid (∀ W, Calls Tryd.prog 8 #[.string (str l)] W (AllEnd W l)) := fun W => rall_any l W
  unfold AllEnd at A1 A2
  have hlen := text_len l
  generalize textG l = G at *
  obtain ⟨ts, er, pl⟩ := G
  simp only at hlen A1 A2
  obtain ⟨n, hn⟩ : ∃ n, ts.length = n := ⟨_, rfl⟩
  have HN := hidden hn
  have HLN : Hid (n ≤ 1048577) := by rw [← hn]; exact hlen
  clear hlen hn
  have B1 : Hid (∀ W, Env W → Calls Tryd.prog 7 #[.string (str l)] W fun e w' => ∃ a cap, e = .returned (.tuple #[.slice a n cap, .agg #[.int .i64 er, .int .i64 pl]]) ∧ Toks W.heap.size w' (.slice a n cap) ts ∧ Below W.heap.size W w') := fun W hW => (A1.out W hW).mono fun _ w' ⟨v, he, ht, hb⟩ => by
    obtain ⟨a, cap, rfl⟩ := ht.shape
    rw [HN.out] at he ht
    exact ⟨a, cap, he, ht, hb⟩
  have B2 : Hid (∀ W, Calls Tryd.prog 8 #[.string (str l)] W fun e w' => ∃ a cap, e = .returned (.tuple #[.slice a n cap, .agg #[.int .i64 er, .int .i64 pl]]) ∧ Toks W.heap.size w' (.slice a n cap) ts ∧ Below W.heap.size W w') := fun W => (A2.out W).mono fun _ w' ⟨v, he, ht, hb⟩ => by
    obtain ⟨a, cap, rfl⟩ := ht.shape
    rw [HN.out] at he ht
    exact ⟨a, cap, he, ht, hb⟩
  have HW := hidden awake_any
  have HE := hidden hE
  clear hE A1 A2
  have q1 : (er != er) = false := by simp
  have q2 : (pl != pl) = false := by simp
  have q3 : (er == er) = true := by simp
  have q4 : (pl == pl) = true := by simp
  have HSM : Hid (∀ a b ca cb W, AtT W a ts → AtT W b ts → Calls Tryd.prog 9 #[.slice a n ca, .slice b n cb] W fun e w' => e = .returned (.bool true) ∧ Below W.heap.size W w') := fun a b ca cb W h1 h2 => (same_any a b n ca cb ts W HN.out h1 h2 (by have := HLN.out; omega)).mono fun _ _ ⟨he, m, hw⟩ => ⟨he, by rw [hw]; exact drewN_below _ _⟩
  go_enter Tryd.func3, Tryd.ntmps3
  go_wp2_with (first
    | (go_at_call 11; (with_reducible refine (apart_toks w.heap.size _ a1 a2 n n p1 p2 ts ts (ap_two T1c.out T2c.out T1a.out T2a.out (B6.out.size)) HN.out HN.out (by have := HLN.out; omega) (by have := HLN.out; omega)).mono ?_); rintro e w7 ⟨rfl, hb7⟩; have B7 := hidden hb7; clear hb7)
    | (go_at_call 10; (with_reducible refine (HW.out _ (HE.out.below B5.out)).mono ?_); rintro e w6 ⟨rfl, hb6⟩; have B6 := hidden (B5.out.trans (hb6.mono B5.out.size)); have T1c := hidden (T1b.out.below hb6); have T2c := hidden (T2b.out.below hb6); clear hb6)
    | (go_at_call 9; (with_reducible refine (HSM.out a2 a3 p2 p3 _ T2b.out.slice_at T3b.out.slice_at).mono ?_); rintro e w5 ⟨rfl, hb5⟩; have B5 := hidden (B4.out.trans (hb5.mono B4.out.size)); have T1b := hidden (T1b.out.below hb5); have T2b := hidden (T2b.out.below hb5))
    | (go_at_call 9; ((with_reducible refine (HSM.out a1 a3 p1 p3 _ (T1z.out (.cells #[.int .i64 er, .int .i64 pl] 25)).slice_at (T3z.out (.cells #[.int .i64 er, .int .i64 pl] 25)).slice_at).mono ?_); rintro e w4 ⟨rfl, hb4⟩; have B4 := hidden ((B3z.out (.cells #[.int .i64 er, .int .i64 pl] 25)).trans (hb4.mono (B3z.out (.cells #[.int .i64 er, .int .i64 pl] 25)).size)); have T1b := hidden ((T1z.out (.cells #[.int .i64 er, .int .i64 pl] 25)).below hb4); have T2b := hidden ((T2z.out (.cells #[.int .i64 er, .int .i64 pl] 25)).below hb4); have T3b := hidden ((T3z.out (.cells #[.int .i64 er, .int .i64 pl] 25)).below hb4)))
    | (go_at_call 8; (with_reducible refine (B2.out _).mono ?_); rintro e w3 ⟨a3, p3, rfl, ht3, hb3⟩; have hb23 := (below_one _ _).trans (hb3.mono (below_one _ _).size); have B3z : Hid (∀ o, Below w.heap.size w (w3.alloc o)) := fun o => (B2y.out.trans (hb23.mono B2y.out.size)).trans ((below_one w3 o).mono (B2y.out.trans (hb23.mono B2y.out.size)).size); have T1z : Hid (∀ o, Toks w.heap.size (w3.alloc o) (.slice a1 n p1) ts) := fun o => ((T1y.out.below hb23).below (below_one _ _)); have T2z : Hid (∀ o, Toks w.heap.size (w3.alloc o) (.slice a2 n p2) ts) := fun o => ((T2y.out.below hb23).below (below_one _ _)); have T3z : Hid (∀ o, Toks w.heap.size (w3.alloc o) (.slice a3 n p3) ts) := fun o => ((ht3.mono (by have h := B2y.out.size; simp; omega)).below (below_one _ _)); have F1 := ((D1.out.later (below_one w2 (.cells #[.int .i64 er, .int .i64 pl] 25))).later hb3); have F1a := fun o => (F1.later (below_one w3 o)).c0; have F1b := fun o => (F1.later (below_one w3 o)).c1; have F2 := ((duo_new w2 (.int .i64 er) (.int .i64 pl) 25).later hb3); have F2a := fun o => (F2.later (below_one w3 o)).c0; have F2b := fun o => (F2.later (below_one w3 o)).c1; clear ht3 hb3 hb23 F1 F2)
    | (go_at_call 7; (with_reducible refine (B1.out _ (HE.out.below B1y.out)).mono ?_); rintro e w2 ⟨a2, p2, rfl, ht2, hb2⟩; have T2a := hidden ht2; have B2y : Hid (Below w.heap.size w w2) := B1y.out.trans (hb2.mono B1y.out.size); have T1y : Hid (Toks w.heap.size w2 (.slice a1 n p1) ts) := T1a.out.below hb2; have T2y : Hid (Toks w.heap.size w2 (.slice a2 n p2) ts) := ht2.mono B1y.out.size; have D1 : Hid (Duo w2 w1.heap.size (.int .i64 er) (.int .i64 pl)) := (duo_new w1 _ _ 25).later hb2; clear ht2 hb2)
    | (go_at_call 7; (with_reducible refine (B1.out _ HE.out).mono ?_); rintro e w1 ⟨a1, p1, rfl, ht1, hb1⟩; have B1y : Hid (Below w.heap.size w (w1.alloc (.cells #[.int .i64 er, .int .i64 pl] 25))) := hb1.trans ((below_one w1 _).mono hb1.size); have T1a : Hid (Toks w.heap.size (w1.alloc (.cells #[.int .i64 er, .int .i64 pl] 25)) (.slice a1 n p1) ts) := ht1.below (below_one _ _); clear ht1 hb1))
  go_ret
  exact ⟨rfl, B6.out.trans (B7.out)⟩
end Go.Proofs.YtpmooflijlkppaaDoor

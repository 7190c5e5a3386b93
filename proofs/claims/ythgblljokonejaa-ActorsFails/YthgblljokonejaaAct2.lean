/- Actors in memory: lists that come in and go out; takes, count, times, rates, what is kept. -/
import Derived.Test.YthgblljokonejaaAct1
namespace Go.Proofs.Ythgblljokonejaa
open Go.ChangeShapes Go.WideShapes Go.ChangeAt Go.RowKit

/-- A row of rows, as it lies. -/
def AtL (w : World) (a : Option Addr) (I : List (List Int)) : Prop :=
  I = [] ∨ ∃ b off, a = some ⟨b, off, none⟩ ∧ ∀ k, k < I.length → ∃ x c, w.cell? ⟨b, off + k, none⟩ = some (.slice x (nthL I k).length c) ∧ At w x (nthL I k)
structure ArgL (w : World) (a : Option Addr) (len : Nat) (I : List (List Int)) : Prop where
  size : I.length = len
  lies : AtL w a I
  fits : ∀ k, InR (nthL I k)
theorem AtL.block {w w' : World} {a : Option Addr} {I : List (List Int)} (h : AtL w a I) (hb : Below w.heap.size w w') : AtL w' a I := by
  rcases h with h | ⟨b, off, rfl, hc⟩
  · exact .inl h
  · refine .inr ⟨b, off, rfl, fun k hk => ?_⟩
    obtain ⟨x, c, h1, h2⟩ := hc k hk
    exact ⟨x, c, by rw [hb.cell (block_lt_of_cell h1)]; exact h1, h2.below hb⟩
theorem ArgL.below {w w' : World} {a : Option Addr} {len : Nat} {I : List (List Int)} (h : ArgL w a len I) (hb : Below w.heap.size w w') : ArgL w' a len I := ⟨h.size, h.lies.block hb, h.fits⟩
theorem tok_cell {w : World} {a : Option Addr} {I : List (List Int)} {i j : Nat} (hI : AtL w a I) (hi : i < I.length) (hj : j < (nthL I i).length) :
    ∃ b off xb xo c, a = some ⟨b, off, none⟩ ∧ w.cell? ⟨b, off + i, none⟩ = some (.slice (some ⟨xb, xo, none⟩) (nthL I i).length c) ∧ w.cell? ⟨xb, xo + j, none⟩ = some (.int .i64 (nth (nthL I i) j)) := by
  rcases hI with h | ⟨b, off, rfl, hc⟩
  · rw [h] at hi; simp at hi
  obtain ⟨x, c, h1, h2⟩ := hc i hi
  rcases h2 with h | ⟨xb, xo, rfl, h3⟩
  · rw [h] at hj; simp at hj
  exact ⟨b, off, xb, xo, c, rfl, h1, h3 j hj⟩
theorem takes_len {t : Nat} {zs : List Int} {I : List (List Int)} (h : takesS t zs I = true) : I.length = (insS t zs).length := by
  have := congrArg List.length (of_decide_eq_true h)
  simpa using this
theorem map_nth {I : List (List Int)} {k : Nat} (h : k < I.length) : nth (I.map fun l => (l.length : Int)) k = ((nthL I k).length : Int) := by
  rw [nthZ_get (by simpa using h), nthL_get h]
  simp
theorem takes_nth {t : Nat} {zs : List Int} {I : List (List Int)} (h : takesS t zs I = true) {k : Nat} (hk : k < I.length) : ((nthL I k).length : Int) = nth (insS t zs) k := by
  rw [← of_decide_eq_true h, map_nth hk]
/-- Rows that a call gives. -/
structure OutT (B : Nat) (w : World) (A : Nat → Option Addr) (C : Nat → Nat) (x : Option Addr) (O : List (List Int)) : Prop where
  rows : ∀ j, j < O.length → CapR B w (A j) (C j) (nthL O j)
  apart : ∀ j k y z, j < O.length → k < O.length → j ≠ k → A j = some y → A k = some z → y.block ≠ z.block
  tab : O = [] ∨ ∃ g, x = some ⟨g, 0, none⟩ ∧ B ≤ g ∧ g < w.heap.size ∧ (∀ j, j < O.length → w.cell? ⟨g, j, none⟩ = some (.slice (A j) (nthL O j).length (C j))) ∧ ∀ j y, j < O.length → A j = some y → y.block ≠ g
theorem OutT.keep {B : Nat} {w w' : World} {A : Nat → Option Addr} {C : Nat → Nat} {x : Option Addr} {O : List (List Int)} (h : OutT B w A C x O) (hk : ∀ k, B ≤ k → k < w.heap.size → w'.heap[k]? = w.heap[k]?) (hs : w.heap.size ≤ w'.heap.size) : OutT B w' A C x O := by
  refine ⟨fun j hj => (h.rows j hj).keep fun y hy => hk _ ((h.rows j hj).lt y hy).1 ((h.rows j hj).lt y hy).2, h.apart, ?_⟩
  rcases h.tab with h0 | ⟨g, hx, h1, h2, h3, h4⟩
  · exact .inl h0
  · exact .inr ⟨g, hx, h1, by omega, fun j hj => by rw [World.cell?_of_block (w := w) (w' := w') (a := ⟨g, j, none⟩) (hk g h1 h2)]; exact h3 j hj, h4⟩
theorem OutT.at {B : Nat} {w : World} {A : Nat → Option Addr} {C : Nat → Nat} {x : Option Addr} {O : List (List Int)} (h : OutT B w A C x O) : AtL w x O := by
  rcases h.tab with h0 | ⟨g, hx, h1, h2, h3, h4⟩
  · exact .inl h0
  · exact .inr ⟨g, 0, hx, fun k hk => ⟨A k, C k, by rw [Nat.zero_add]; exact h3 k hk, (h.rows k hk).at⟩⟩
theorem OutT.mono {B B' : Nat} {w : World} {A : Nat → Option Addr} {C : Nat → Nat} {x : Option Addr} {O : List (List Int)} (h : OutT B w A C x O) (hB : B' ≤ B) : OutT B' w A C x O := by
  refine ⟨fun j hj => (h.rows j hj).mono hB, h.apart, ?_⟩
  rcases h.tab with h0 | ⟨g, hx, h1, r⟩
  · exact .inl h0
  · exact .inr ⟨g, hx, by omega, r⟩
theorem outT_nil (B : Nat) (w : World) : OutT B w (fun _ => none) (fun _ => 0) none [] := ⟨fun j hj => by simp at hj, fun j k y z hj => by simp at hj, .inl rfl⟩
/-- How a kind's firing ends. -/
def GaveK (F : Nat → Prop) (w : World) (K t : Nat) (zs ks : List Int) (n : Nat) (I : List (List Int)) (e : Ending) (w' : World) : Prop :=
  match giveS t zs ks I with
  | some p => ∃ x c A C F', e = .returned (.tuple #[.slice x p.1.length c, .bool true]) ∧ OutT w.heap.size w' A C x p.1 ∧ KinE F' w' K t zs p.2 n ∧ (∀ k, F' k → F k ∨ (w.heap.size ≤ k ∧ ∀ j y, j < p.1.length → A j = some y → y.block ≠ k)) ∧ (∀ k, F k → F' k) ∧ But K w w'
  | none => (∃ v, e = .returned (.tuple #[v, .bool false])) ∧ KinE F w' K t zs ks n ∧ But K w w'
theorem gave_plain {F : Nat → Prop} {w w' : World} {K t : Nat} {zs ks : List Int} {n : Nat} {I : List (List Int)} {O : List (List Int)} {x : Option Addr} {c : Nat} {A : Nat → Option Addr} {C : Nat → Nat} (hg : giveS t zs ks I = some (O, ks)) (hk : KinE F w K t zs ks n) (hO : OutT w.heap.size w' A C x O) (hb : Below w.heap.size w w') : GaveK F w K t zs ks n I (.returned (.tuple #[.slice x O.length c, .bool true])) w' := by
  unfold GaveK
  rw [hg]
  exact ⟨x, c, A, C, F, rfl, hO, hk.below hb, fun k h => .inl h, fun k h => h, But.of_below hb⟩
theorem gave_none {F : Nat → Prop} {w w' : World} {K t : Nat} {zs ks : List Int} {n : Nat} {I : List (List Int)} {v : Value} (hg : giveS t zs ks I = none) (hk : KinE F w K t zs ks n) (hb : Below w.heap.size w w') : GaveK F w K t zs ks n I (.returned (.tuple #[v, .bool false])) w' := by
  unfold GaveK
  rw [hg]
  exact ⟨⟨v, rfl⟩, hk.below hb, But.of_below hb⟩
theorem drew_size (w : World) (q : Nat) : (w.drewN q).heap.size = w.heap.size := by
  have h1 := (bdrew (Below.refl w.heap.size w) q).size
  have h2 : (w.drewN q).heap = w.heap := by
    induction q with
    | zero => rfl
    | succ q ih => first | exact ih | (simp [World.drewN] at ih ⊢)
  rw [h2]
theorem drew_below {w w' : World} {q : Nat} (h : Below (w.drewN q).heap.size (w.drewN q) w') : Below w.heap.size (w.drewN q) w' := by rw [drew_size] at h; exact h
theorem gave_drew {F : Nat → Prop} {w w' : World} {K t q : Nat} {zs ks : List Int} {n : Nat} {I : List (List Int)} {O : List (List Int)} {x : Option Addr} {c : Nat} {A : Nat → Option Addr} {C : Nat → Nat} (hg : giveS t zs ks I = some (O, ks)) (hk : KinE F w K t zs ks n) (hO : OutT (w.drewN q).heap.size w' A C x O) (hb : Below (w.drewN q).heap.size (w.drewN q) w') : GaveK F w K t zs ks n I (.returned (.tuple #[.slice x O.length c, .bool true])) w' := by
  rw [drew_size] at hO
  exact gave_plain hg hk hO ((bdrew (Below.refl _ _) q).trans (drew_below hb))
theorem capR_one (w : World) (x : Int) : CapR w.heap.size (w.alloc (.cells #[.int .i64 x] 3)) (some ⟨w.heap.size, 0, none⟩) 1 [x] :=
  ⟨rfl, .inr ⟨w.heap.size, 1, #[.int .i64 x], rfl, Nat.le_refl _, by show (w.heap.push _)[w.heap.size]? = _; simp, Nat.le_refl _, by unfold maxLen; omega, rfl, rfl⟩⟩
def SingleEnd (w : World) (x : Int) (e : Ending) (w' : World) : Prop := ∃ g A C, e = .returned (.slice (some ⟨g, 0, none⟩) 1 1) ∧ OutT w.heap.size w' A C (some ⟨g, 0, none⟩) [[x]] ∧ Below w.heap.size w w'
theorem single_out (w : World) (zs : List Int) (o : Obj) (g c : Nat) (h1 : CapR w.heap.size (w.alloc o) (some ⟨g, 0, none⟩) c zs) : OutT w.heap.size ((w.alloc o).alloc (.cells #[.slice (some ⟨g, 0, none⟩) zs.length c] 22)) (fun _ => some ⟨g, 0, none⟩) (fun _ => c) (some ⟨(w.alloc o).heap.size, 0, none⟩) [zs] := by
  have hb := (Below.refl (w.alloc o).heap.size (w.alloc o)).alloc (Nat.le_refl _) (.cells #[.slice (some ⟨g, 0, none⟩) zs.length c] 22)
  refine ⟨fun j hj => ?_, fun j k y z hj hk hn => ?_, .inr ⟨_, rfl, by simp, by simp, fun j hj => ?_, fun j y _ hy => ?_⟩⟩
  · match j, hj with
    | 0, _ => exact h1.later hb
  · simp at hj hk; omega
  · match j, hj with
    | 0, _ => exact (blkA_new 22 (w.alloc o) #[.slice (some ⟨g, 0, none⟩) zs.length c]).cell rfl
  · cases hy
    have := (h1.lt _ rfl).2
    simp only at this ⊢
    omega
theorem single_any (x : Int) (w : World) : Calls Try.prog 136 #[.int .i64 x] w (SingleEnd w x) := by
  have h1 := single_out w [x] _ _ _ (capR_one w x)
  simp only [World.size_alloc] at h1
  have H := hidden6 h1
  clear h1
  go_enter Try.func136, Try.ntmps136
  go_wp2
  go_ret
  exact ⟨w.heap.size + 1, fun _ => some ⟨w.heap.size, 0, none⟩, fun _ => 1, rfl, H.out, ((Below.refl _ _).alloc (Nat.le_refl _) _).alloc (by simp) _⟩
set_option maxRecDepth 100000 in
set_option maxHeartbeats 1000000 in
theorem takes_any (K : Nat) (w : World) (a1 : Option Addr) (c1 : Nat) (P : List Int) (a : Option Addr) (len cap : Nat) (I : List (List Int)) (hc0 : w.cell? ⟨K, 0, none⟩ = some (.slice a1 P.length c1)) (h1 : At w a1 P) (hm : P.length ≤ 1024) (hl : I.length = len) (hI : AtL w a I) :
    Calls Try.prog 133 #[.pointer (some ⟨K, 0, none⟩), .slice a len cap] w fun e w' => e = .returned (.bool (decide (I.map (fun l => (l.length : Int)) = P))) ∧ w' = w := by
  obtain ⟨r, hr⟩ : ∃ r, decide (I.map (fun l => (l.length : Int)) = P) = r := ⟨_, rfl⟩
  rw [hr]
  by_cases he : len = P.length
  · have HT : Hid ((∀ j, j < len → ((nthL I j).length : Int) = nth P j) → r = true) := fun h => by
      rw [← hr]
      refine decide_eq_true (list_nth (by simp; omega) fun k hk => ?_)
      have hk' : k < I.length := by simpa using hk
      rw [map_nth hk']
      exact h k (by omega)
    have HF : Hid (∀ j, j < len → ((nthL I j).length : Int) ≠ nth P j → r = false) := fun j hj hn => by
      rw [← hr]
      refine decide_eq_false fun h => hn ?_
      rw [← h, map_nth (by omega)]
    have HI := hidden6 hI
    have H1 := hidden6 h1
    have HP := hidden6 he
    rw [← he] at hc0 hm
    clear hr hI h1
    have hee : ((len : Int) != (len : Int)) = false := by simp
    go_enter Try.func133, Try.ntmps133
    go_wp2
    go_loop [20] (fun i => ∃ k : Nat, k ≤ len ∧ i = .int .i64 k ∧ ∀ j, j < k → ((nthL I j).length : Int) = nth P j) (fun i => len - (intOf i).toNat)
    case atStart => exact ⟨0, Nat.zero_le _, rfl, fun j hj => by omega⟩
    case round =>
      obtain ⟨k, hk, rfl, hall⟩ := hrel
      have HA := hidden6 hall
      clear hall
      by_cases hlt : k < len
      · have hki : (k : Int) < (len : Int) := by omega
        rcases H1.out with h0 | ⟨b1, o1, rfl, hc1⟩
        · have := HP.out; rw [h0] at this; simp at this; omega
        rcases HI.out with h0 | ⟨b2, o2, rfl, hc2⟩
        · rw [h0] at hl; simp at hl; omega
        have g1 := hc1 k (by have := HP.out; omega)
        obtain ⟨x, c, g2, -⟩ := hc2 k (by omega)
        have HFk := hidden6 (HF.out k hlt)
        have HAk : Hid (((nthL I k).length : Int) = nth P k → ∀ j, j < k + 1 → ((nthL I j).length : Int) = nth P j) := fun h j hj => by
          by_cases e : j = k
          · subst e; exact h
          · exact HA.out j (by omega)
        clear hc1 hc2 HA
        generalize (nthL I k).length = m at *
        generalize nth P k = p at *
        by_cases hq : (m : Int) = p
        · have hqq : ((m : Int) != p) = false := by simpa using hq
          have HN := hidden6 (HAk.out hq)
          clear hq
          go_wp2
          go_round
          case rel => exact ⟨k + 1, by omega, by go_num, HN.out⟩
          case measure => simp [intOf]; omega
        · have hqq : ((m : Int) != p) = true := by simpa using hq
          obtain rfl : r = false := HFk.out hq
          go_wp2
          go_ret
          exact ⟨rfl, rfl⟩
      · obtain rfl : r = true := HT.out fun j hj => HA.out j (by omega)
        have hki : ¬ (k : Int) < (len : Int) := by omega
        go_wp2
        go_ret
        exact ⟨rfl, rfl⟩
  · have hf : r = false := by
      rw [← hr]
      refine decide_eq_false fun h => he ?_
      have := congrArg List.length h
      simp at this
      omega
    have hee : ((len : Int) != (P.length : Int)) = true := by simp; omega
    clear hI h1 hr
    subst hf
    go_enter Try.func133, Try.ntmps133
    go_wp2
    go_ret
    exact ⟨rfl, rfl⟩
set_option maxRecDepth 100000 in
theorem count_any (K n : Nat) (w : World) (hc : w.cell? ⟨K, 2, none⟩ = some (.int .i64 (n : Int))) (hf : w.frozen? ⟨K, 2, none⟩ = false) (hn : n < 4611686018427387904) :
    Calls Try.prog 129 #[.pointer (some ⟨K, 0, none⟩)] w fun e w' => e = .returned (.tuple #[]) ∧ w' = w.setCell ⟨K, 2, none⟩ (.int .i64 ((n + 1 : Nat) : Int)) := by
  go_enter Try.func129, Try.ntmps129
  go_wp2
  go_returns
  exact ⟨rfl, by congr 1⟩
theorem timesK_any (K n : Nat) (w : World) (hc : w.cell? ⟨K, 2, none⟩ = some (.int .i64 (n : Int))) : Calls Try.prog 134 #[.pointer (some ⟨K, 0, none⟩)] w fun e w' => e = .returned (.int .i64 (n : Int)) ∧ w' = w := by
  go_enter Try.func134, Try.ntmps134
  go_wp2
  go_ret
  exact ⟨rfl, rfl⟩
theorem keeps_none (p : Value) (w : World) : Calls Try.prog 141 #[p] w fun e w' => e = .returned (.slice none 0 0) ∧ w' = w := by
  go_enter Try.func141, Try.ntmps141
  go_wp2
  go_ret
  exact ⟨rfl, rfl⟩
theorem keeps_sum (K : Nat) (x : Int) (w : World) (hc : w.cell? ⟨K, 3, none⟩ = some (.int .i64 x)) : Calls Try.prog 149 #[.pointer (some ⟨K, 0, none⟩)] w (RowEnd w [x]) := by
  have H := hidden6 (capR_one w x)
  go_enter Try.func149, Try.ntmps149
  go_wp2
  go_ret
  exact ⟨_, _, rfl, H.out, (Below.refl _ _).alloc (Nat.le_refl _) _⟩
theorem keeps_tick (K : Nat) (x : Int) (w : World) (hc : w.cell? ⟨K, 3, none⟩ = some (.int .i64 x)) : Calls Try.prog 152 #[.pointer (some ⟨K, 0, none⟩)] w (RowEnd w [x]) := by
  have H := hidden6 (capR_one w x)
  go_enter Try.func152, Try.ntmps152
  go_wp2
  go_ret
  exact ⟨_, _, rfl, H.out, (Below.refl _ _).alloc (Nat.le_refl _) _⟩
theorem keeps_filter (K : Nat) (a : Option Addr) (c : Nat) (ks : List Int) (w : World) (hc : w.cell? ⟨K, 4, none⟩ = some (.slice a ks.length c)) (hr : ks.length ≤ 1024) (hn : ∃ g, a = some ⟨g, 0, none⟩) (h : At w a ks) : Calls Try.prog 131 #[.pointer (some ⟨K, 0, none⟩)] w (RowEnd w ks) := by
  have H := hidden6 (clone_any a ks ks.length c w rfl (by omega) (fun e => by obtain ⟨g, hg⟩ := hn; rw [hg] at e; cases e) h)
  unfold RowEnd at H ⊢
  clear h hn
  go_enter Try.func131, Try.ntmps131
  go_wp2_with (go_at_call 42; (with_reducible refine H.out.mono ?_); rintro e w1 ⟨x, c1, rfl, hx, b1⟩)
  go_ret
  exact ⟨_, _, rfl, hx, b1⟩
theorem ins_pos (t : Nat) (ht : 1 ≤ t ∧ t ≤ 11) (zs : List Int) (hk : okS t zs = true) : (insS t zs).length ≤ 16 ∧ ∀ k, k < (insS t zs).length → 1 ≤ nth (insS t zs) k ∧ nth (insS t zs) k ≤ 1024 := by
  have one : ∀ x : Int, 1 ≤ x ∧ x ≤ 1024 → ([x] : List Int).length ≤ 16 ∧ ∀ k, k < ([x] : List Int).length → 1 ≤ nth [x] k ∧ nth [x] k ≤ 1024 := fun x hx => ⟨by simp, fun k hk => by
    match k, hk with
    | 0, _ => exact hx⟩
  have many : ∀ n x : Int, n ≤ 16 → 1 ≤ x ∧ x ≤ 1024 → (rep n x).length ≤ 16 ∧ ∀ k, k < (rep n x).length → 1 ≤ nth (rep n x) k ∧ nth (rep n x) k ≤ 1024 := fun n x hn hx => ⟨by unfold rep; simp; omega, fun k hk => by
    unfold rep at hk ⊢
    rw [nth_rep (by simpa using hk)]; exact hx⟩
  revert hk
  revert t
  refine eleven ?_ ?_ ?_ ?_ ?_ ?_ ?_ ?_ ?_ ?_ ?_
  · exact fun _ => one 1 (by decide)
  · exact fun _ => one 1 (by decide)
  · intro hk; have := (ok_one rfl hk).2; exact one _ (by omega)
  · intro hk; have := (ok_two rfl hk).2; exact many _ _ this.1.2 (by omega)
  · intro hk; have := (ok_two rfl hk).2; exact one _ (mul_bound this.1 this.2)
  · intro hk; have := (ok_one rfl hk).2; exact many _ _ this.2 (by decide)
  · exact fun _ => ⟨by show (2 : Nat) ≤ 16; decide, fun k hk => by
      match k, hk with
      | 0, _ => exact (by decide : (1 : Int) ≤ 1 ∧ (1 : Int) ≤ 1024)
      | 1, _ => exact (by decide : (1 : Int) ≤ 1 ∧ (1 : Int) ≤ 1024)⟩
  · exact fun _ => one 1 (by decide)
  · exact fun _ => one 1 (by decide)
  · exact fun _ => ⟨by show (0 : Nat) ≤ 16; decide, fun k hk => by simp [insS] at hk⟩
  · intro hk; have := (ok_one rfl hk).2; exact one _ (by omega)
theorem first_tok {w : World} {t : Nat} {zs : List Int} {a : Option Addr} {len : Nat} {I : List (List Int)} (hA : ArgL w a len I) (ht : takesS t zs I = true) (h0 : 0 < (insS t zs).length) (h1 : 1 ≤ nth (insS t zs) 0) :
    ∃ b off xb xo m c, a = some ⟨b, off, none⟩ ∧ 0 < len ∧ 0 < m ∧ (nthL I 0).length = m ∧ w.cell? ⟨b, off, none⟩ = some (.slice (some ⟨xb, xo, none⟩) m c) ∧ w.cell? ⟨xb, xo, none⟩ = some (.int .i64 (nth (nthL I 0) 0)) := by
  have hl := takes_len ht
  have h2 := takes_nth ht (k := 0) (by omega)
  obtain ⟨b, off, xb, xo, c, e, g1, g2⟩ := tok_cell hA.lies (i := 0) (j := 0) (by omega) (by omega)
  have := hA.size
  exact ⟨b, off, xb, xo, _, c, e, by omega, by omega, rfl, g1, g2⟩
end Go.Proofs.Ythgblljokonejaa

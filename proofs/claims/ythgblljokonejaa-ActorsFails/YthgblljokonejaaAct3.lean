/- Actors made. (Written by tmpl/mkAct3.py.) -/
import Derived.Test.YthgblljokonejaaAct2
namespace Go.Proofs.Ythgblljokonejaa
open Go.ChangeShapes Go.WideShapes Go.ChangeAt Go.RowKit

theorem keep_start (t : Nat) (ht : 1 ≤ t ∧ t ≤ 11) (zs : List Int) (hk : okS t zs = true) (hz : InR zs) : KeepOk t zs (keepS t zs) := by
  have none : ∀ k : Nat, -9223372036854775808 ≤ nth [] k ∧ nth [] k ≤ 9223372036854775807 := fun k => inR0 k
  have one : ∀ x : Int, (-9223372036854775808 ≤ x ∧ x ≤ 9223372036854775807) → InR [x] := fun x hx k => by
    cases k with
    | zero => exact hx
    | succ k => rw [nth_none (by simp)]; decide
  revert hk
  revert t
  refine eleven ?_ ?_ ?_ ?_ ?_ ?_ ?_ ?_ ?_ ?_ ?_
  · intro hk
    have h1 := wB_bound (show wB (zs.length : Int) 16 = true from hk)
    refine ⟨fun k => ?_, fun _ => by show (List.replicate _ _).length + 1 = _; simp; omega, (fun e => by omega), fun e => absurd rfl e⟩
    show _ ≤ nth (List.replicate _ _) k ∧ nth (List.replicate _ _) k ≤ _
    by_cases hk : k < zs.length - 1
    · rw [nth_rep hk]; decide
    · rw [nth_none (by simp; omega)]; decide
  · exact fun _ => ⟨none, (fun e => by omega), (fun e => by omega), fun _ _ _ => rfl⟩
  · exact fun _ => ⟨none, (fun e => by omega), (fun e => by omega), fun _ _ _ => rfl⟩
  · exact fun _ => ⟨none, (fun e => by omega), (fun e => by omega), fun _ _ _ => rfl⟩
  · exact fun _ => ⟨none, (fun e => by omega), (fun e => by omega), fun _ _ _ => rfl⟩
  · exact fun _ => ⟨none, (fun e => by omega), (fun e => by omega), fun _ _ _ => rfl⟩
  · exact fun _ => ⟨none, (fun e => by omega), (fun e => by omega), fun _ _ _ => rfl⟩
  · exact fun _ => ⟨one 0 (by decide), (fun e => by omega), (fun _ => rfl), fun _ e => absurd rfl e⟩
  · exact fun _ => ⟨none, (fun e => by omega), (fun e => by omega), fun _ _ _ => rfl⟩
  · exact fun _ => ⟨one _ (hz 0), (fun e => by omega), (fun _ => rfl), fun _ _ e => absurd rfl e⟩
  · exact fun _ => ⟨none, (fun e => by omega), (fun e => by omega), fun _ _ _ => rfl⟩
theorem kin_made {B : Nat} {V : World} {T : Nat} {zs : List Int} {a1 a2 a3 a4 : Option Addr} {c1 c2 c3 c4 : Nat} {cs : Array Value} (hcs : cs = kCells T (.slice a1 (insS T zs).length c1) (.slice a2 (outsS T zs).length c2) (.slice a3 zs.length c3) (.slice a4 (keepS T zs).length c4) ((0 : Nat) : Int) zs (keepS T zs)) (h1 : CapR B V a1 c1 (insS T zs)) (h2 : CapR B V a2 c2 (outsS T zs)) (h3 : T = 1 → CapR B V a3 c3 zs) (h4 : T = 1 → CapR B V a4 c4 (keepS T zs)) (h5 : T = 1 → ∃ g, a4 = some ⟨g, 0, none⟩) (hB : B ≤ V.heap.size) (ht : 1 ≤ T ∧ T ≤ 11) (ok : okS T zs = true) (inr : InR zs) :
    ∃ F, KinE F (V.alloc (.cells cs (kT T))) V.heap.size T zs (keepS T zs) 0 ∧ ∀ k, F k → B ≤ k := by
  have hb := (Below.refl V.heap.size V).alloc (Nat.le_refl _) (.cells cs (kT T))
  have ne : ∀ {a : Option Addr} {c : Nat} {l : List Int}, CapR B V a c l → ∀ x, a = some x → x.block ≠ V.heap.size := fun h x hx => by have := (h.lt x hx).2; omega
  refine ⟨fun k => k = V.heap.size ∨ (∃ x, a1 = some x ∧ x.block = k) ∨ (∃ x, a2 = some x ∧ x.block = k) ∨ (T = 1 ∧ ((∃ x, a3 = some x ∧ x.block = k) ∨ (∃ x, a4 = some x ∧ x.block = k))), ⟨a1, a2, a3, a4, c1, c2, c3, c4, ?_, ((h1.later hb).mono (Nat.zero_le _)), ((h2.later hb).mono (Nat.zero_le _)), (fun e => ((h3 e).later hb).mono (Nat.zero_le _)), (fun e => ((h4 e).later hb).mono (Nat.zero_le _)), .inl rfl, (fun x hx => .inr (.inl ⟨x, hx, rfl⟩)), (fun x hx => .inr (.inr (.inl ⟨x, hx, rfl⟩))), (fun e x hx => .inr (.inr (.inr ⟨e, .inl ⟨x, hx, rfl⟩⟩))), (fun e x hx => .inr (.inr (.inr ⟨e, .inr ⟨x, hx, rfl⟩⟩))), ⟨ne h1, ne h2, fun e => ne (h3 e), fun e => ne (h4 e)⟩, h5, ht, ok, keep_start T ht zs ok inr, inr, ?_⟩, ?_⟩
  · rw [hcs]; exact blkA_new _ _ _
  · intro k hk
    have hs : (V.alloc (.cells cs (kT T))).heap.size = V.heap.size + 1 := by simp
    rcases hk with rfl | ⟨x, hx, rfl⟩ | ⟨x, hx, rfl⟩ | ⟨e, ⟨x, hx, rfl⟩ | ⟨x, hx, rfl⟩⟩
    · omega
    · have := (h1.lt x hx).2; omega
    · have := (h2.lt x hx).2; omega
    · have := ((h3 e).lt x hx).2; omega
    · have := ((h4 e).lt x hx).2; omega
  · intro k hk
    rcases hk with rfl | ⟨x, hx, rfl⟩ | ⟨x, hx, rfl⟩ | ⟨e, ⟨x, hx, rfl⟩ | ⟨x, hx, rfl⟩⟩
    · exact hB
    · exact (h1.lt x hx).1
    · exact (h2.lt x hx).1
    · exact ((h3 e).lt x hx).1
    · exact ((h4 e).lt x hx).1
def MadeEnd (B : Nat) (w : World) (t : Nat) (zs : List Int) (e : Ending) (w' : World) : Prop := ∃ K F, e = .returned (.iface (kP t) (.pointer (some ⟨K, 0, none⟩))) ∧ KinE F w' K t zs (keepS t zs) 0 ∧ (∀ k, F k → B ≤ k) ∧ B ≤ K ∧ Below w.heap.size w w'
def MkS (B : Nat) (u : World) (zs : List Int) (v : Value) : Prop := ∃ g c, v = .slice (some ⟨g, 0, none⟩) zs.length c ∧ CapR B u (some ⟨g, 0, none⟩) c zs
theorem MkS.later {B : Nat} {u u' : World} {zs : List Int} {v : Value} (h : MkS B u zs v) (hb : Below u.heap.size u u') : MkS B u' zs v := by
  obtain ⟨a, c, e, h⟩ := h
  exact ⟨a, c, e, h.later hb⟩
theorem made_alloc (w : World) (N : Nat) (h : N ≤ 1024) : CapR w.heap.size (w.alloc (.cells (madeCells #[.int .i64 0] N) 3)) (some ⟨w.heap.size, 0, none⟩) N (List.replicate N 0) := by
  refine ⟨by simp, .inr ⟨w.heap.size, N, madeCells #[.int .i64 0] N, by simp, Nat.le_refl _, by show (w.heap.push _)[w.heap.size]? = _; simp, by simp, by unfold maxLen; omega, by simp [madeCells], ?_⟩⟩
  apply List.ext_getElem?
  intro k
  by_cases hk : k < N <;> simp [madeCells, hk, Nat.mod_one]
set_option maxRecDepth 100000 in
set_option maxHeartbeats 2000000 in
theorem made_2 (B : Nat) (w : World) (a1 a2 : Option Addr) (c1 c2 : Nat) (zs : List Int) (a : Option Addr) (len cap : Nat) (h1 : CapR B w a1 c1 (insS 2 zs)) (h2 : CapR B w a2 c2 (outsS 2 zs)) (hB : B ≤ w.heap.size) (ok : okS 2 zs = true) (inr : InR zs) (hl : zs.length = len) (hA : At w a zs) (hn : a = none → len = 0 ∧ cap = 0) :
    Calls Try.prog 26 #[.int .u8 2, .agg #[.slice a1 (insS 2 zs).length c1, .slice a2 (outsS 2 zs).length c2, .int .i64 0], .slice a len cap] w (MadeEnd B w 2 zs) := by
  have u1 := hA
  have u2 := hn
  have u3 := hl
  obtain ⟨l1, e1⟩ : ∃ l, (insS 2 zs).length = l := ⟨_, rfl⟩
  obtain ⟨l2, e2⟩ : ∃ l, (outsS 2 zs).length = l := ⟨_, rfl⟩
  rw [e1, e2]
  have E1 := hidden6 e1
  have E2 := hidden6 e2
  have H1 := hidden6 h1
  have H2 := hidden6 h2
  have OK := hidden6 ok
  have IR := hidden6 inr
  clear u1 u2 u3 hA hn hl e1 e2 h1 h2 ok inr
  go_enter Try.func26, Try.ntmps26
  go_wp2
  go_ret
  have b1 := (Below.refl w.heap.size w).alloc (Nat.le_refl _) (.cells #[.slice a1 l1 c1, .slice a2 l2 c2, .int .i64 0] 66)
  obtain ⟨F, hF, hFB⟩ := kin_made (T := 2) (zs := zs) (a3 := none) (a4 := none) (c3 := 0) (c4 := 0) (cs := #[.slice a1 l1 c1, .slice a2 l2 c2, .int .i64 0]) (by rw [E1.out, E2.out]; rfl) (H1.out.later b1) (H2.out.later b1) (fun e => by omega) (fun e => by omega) (fun e => by omega) (by simp; omega) (by decide) OK.out IR.out
  simp only [World.size_alloc] at hF
  exact ⟨_, F, rfl, hF, hFB, by omega, b1.alloc (by simp) _⟩
set_option maxRecDepth 100000 in
set_option maxHeartbeats 2000000 in
theorem made_3 (B : Nat) (w : World) (a1 a2 : Option Addr) (c1 c2 : Nat) (zs : List Int) (a : Option Addr) (len cap : Nat) (h1 : CapR B w a1 c1 (insS 3 zs)) (h2 : CapR B w a2 c2 (outsS 3 zs)) (hB : B ≤ w.heap.size) (ok : okS 3 zs = true) (inr : InR zs) (hl : zs.length = len) (hA : At w a zs) (hn : a = none → len = 0 ∧ cap = 0) :
    Calls Try.prog 26 #[.int .u8 3, .agg #[.slice a1 (insS 3 zs).length c1, .slice a2 (outsS 3 zs).length c2, .int .i64 0], .slice a len cap] w (MadeEnd B w 3 zs) := by
  have u1 := hA
  have u2 := hn
  have u3 := hl
  obtain ⟨l1, e1⟩ : ∃ l, (insS 3 zs).length = l := ⟨_, rfl⟩
  obtain ⟨l2, e2⟩ : ∃ l, (outsS 3 zs).length = l := ⟨_, rfl⟩
  rw [e1, e2]
  have E1 := hidden6 e1
  have E2 := hidden6 e2
  have H1 := hidden6 h1
  have H2 := hidden6 h2
  have OK := hidden6 ok
  have IR := hidden6 inr
  clear u1 u2 u3 hA hn hl e1 e2 h1 h2 ok inr
  go_enter Try.func26, Try.ntmps26
  go_wp2
  go_ret
  have b1 := (Below.refl w.heap.size w).alloc (Nat.le_refl _) (.cells #[.slice a1 l1 c1, .slice a2 l2 c2, .int .i64 0] 66)
  obtain ⟨F, hF, hFB⟩ := kin_made (T := 3) (zs := zs) (a3 := none) (a4 := none) (c3 := 0) (c4 := 0) (cs := #[.slice a1 l1 c1, .slice a2 l2 c2, .int .i64 0]) (by rw [E1.out, E2.out]; rfl) (H1.out.later b1) (H2.out.later b1) (fun e => by omega) (fun e => by omega) (fun e => by omega) (by simp; omega) (by decide) OK.out IR.out
  simp only [World.size_alloc] at hF
  exact ⟨_, F, rfl, hF, hFB, by omega, b1.alloc (by simp) _⟩
set_option maxRecDepth 100000 in
set_option maxHeartbeats 2000000 in
theorem made_4 (B : Nat) (w : World) (a1 a2 : Option Addr) (c1 c2 : Nat) (zs : List Int) (a : Option Addr) (len cap : Nat) (h1 : CapR B w a1 c1 (insS 4 zs)) (h2 : CapR B w a2 c2 (outsS 4 zs)) (hB : B ≤ w.heap.size) (ok : okS 4 zs = true) (inr : InR zs) (hl : zs.length = len) (hA : At w a zs) (hn : a = none → len = 0 ∧ cap = 0) :
    Calls Try.prog 26 #[.int .u8 4, .agg #[.slice a1 (insS 4 zs).length c1, .slice a2 (outsS 4 zs).length c2, .int .i64 0], .slice a len cap] w (MadeEnd B w 4 zs) := by
  have u1 := hA
  have u2 := hn
  have u3 := hl
  obtain ⟨l1, e1⟩ : ∃ l, (insS 4 zs).length = l := ⟨_, rfl⟩
  obtain ⟨l2, e2⟩ : ∃ l, (outsS 4 zs).length = l := ⟨_, rfl⟩
  rw [e1, e2]
  have E1 := hidden6 e1
  have E2 := hidden6 e2
  have H1 := hidden6 h1
  have H2 := hidden6 h2
  have OK := hidden6 ok
  have IR := hidden6 inr
  clear u1 u2 u3 hA hn hl e1 e2 h1 h2 ok inr
  go_enter Try.func26, Try.ntmps26
  go_wp2
  go_ret
  have b1 := (Below.refl w.heap.size w).alloc (Nat.le_refl _) (.cells #[.slice a1 l1 c1, .slice a2 l2 c2, .int .i64 0] 66)
  obtain ⟨F, hF, hFB⟩ := kin_made (T := 4) (zs := zs) (a3 := none) (a4 := none) (c3 := 0) (c4 := 0) (cs := #[.slice a1 l1 c1, .slice a2 l2 c2, .int .i64 0]) (by rw [E1.out, E2.out]; rfl) (H1.out.later b1) (H2.out.later b1) (fun e => by omega) (fun e => by omega) (fun e => by omega) (by simp; omega) (by decide) OK.out IR.out
  simp only [World.size_alloc] at hF
  exact ⟨_, F, rfl, hF, hFB, by omega, b1.alloc (by simp) _⟩
set_option maxRecDepth 100000 in
set_option maxHeartbeats 2000000 in
theorem made_5 (B : Nat) (w : World) (a1 a2 : Option Addr) (c1 c2 : Nat) (zs : List Int) (a : Option Addr) (len cap : Nat) (h1 : CapR B w a1 c1 (insS 5 zs)) (h2 : CapR B w a2 c2 (outsS 5 zs)) (hB : B ≤ w.heap.size) (ok : okS 5 zs = true) (inr : InR zs) (hl : zs.length = len) (hA : At w a zs) (hn : a = none → len = 0 ∧ cap = 0) :
    Calls Try.prog 26 #[.int .u8 5, .agg #[.slice a1 (insS 5 zs).length c1, .slice a2 (outsS 5 zs).length c2, .int .i64 0], .slice a len cap] w (MadeEnd B w 5 zs) := by
  have u1 := hA
  have u2 := hn
  have u3 := hl
  obtain ⟨l1, e1⟩ : ∃ l, (insS 5 zs).length = l := ⟨_, rfl⟩
  obtain ⟨l2, e2⟩ : ∃ l, (outsS 5 zs).length = l := ⟨_, rfl⟩
  rw [e1, e2]
  have E1 := hidden6 e1
  have E2 := hidden6 e2
  have H1 := hidden6 h1
  have H2 := hidden6 h2
  have OK := hidden6 ok
  have IR := hidden6 inr
  clear u1 u2 u3 hA hn hl e1 e2 h1 h2 ok inr
  go_enter Try.func26, Try.ntmps26
  go_wp2
  go_ret
  have b1 := (Below.refl w.heap.size w).alloc (Nat.le_refl _) (.cells #[.slice a1 l1 c1, .slice a2 l2 c2, .int .i64 0] 66)
  obtain ⟨F, hF, hFB⟩ := kin_made (T := 5) (zs := zs) (a3 := none) (a4 := none) (c3 := 0) (c4 := 0) (cs := #[.slice a1 l1 c1, .slice a2 l2 c2, .int .i64 0]) (by rw [E1.out, E2.out]; rfl) (H1.out.later b1) (H2.out.later b1) (fun e => by omega) (fun e => by omega) (fun e => by omega) (by simp; omega) (by decide) OK.out IR.out
  simp only [World.size_alloc] at hF
  exact ⟨_, F, rfl, hF, hFB, by omega, b1.alloc (by simp) _⟩
set_option maxRecDepth 100000 in
set_option maxHeartbeats 2000000 in
theorem made_6 (B : Nat) (w : World) (a1 a2 : Option Addr) (c1 c2 : Nat) (zs : List Int) (a : Option Addr) (len cap : Nat) (h1 : CapR B w a1 c1 (insS 6 zs)) (h2 : CapR B w a2 c2 (outsS 6 zs)) (hB : B ≤ w.heap.size) (ok : okS 6 zs = true) (inr : InR zs) (hl : zs.length = len) (hA : At w a zs) (hn : a = none → len = 0 ∧ cap = 0) :
    Calls Try.prog 26 #[.int .u8 6, .agg #[.slice a1 (insS 6 zs).length c1, .slice a2 (outsS 6 zs).length c2, .int .i64 0], .slice a len cap] w (MadeEnd B w 6 zs) := by
  have u1 := hA
  have u2 := hn
  have u3 := hl
  obtain ⟨l1, e1⟩ : ∃ l, (insS 6 zs).length = l := ⟨_, rfl⟩
  obtain ⟨l2, e2⟩ : ∃ l, (outsS 6 zs).length = l := ⟨_, rfl⟩
  rw [e1, e2]
  have E1 := hidden6 e1
  have E2 := hidden6 e2
  have H1 := hidden6 h1
  have H2 := hidden6 h2
  have OK := hidden6 ok
  have IR := hidden6 inr
  clear u1 u2 u3 hA hn hl e1 e2 h1 h2 ok inr
  go_enter Try.func26, Try.ntmps26
  go_wp2
  go_ret
  have b1 := (Below.refl w.heap.size w).alloc (Nat.le_refl _) (.cells #[.slice a1 l1 c1, .slice a2 l2 c2, .int .i64 0] 66)
  obtain ⟨F, hF, hFB⟩ := kin_made (T := 6) (zs := zs) (a3 := none) (a4 := none) (c3 := 0) (c4 := 0) (cs := #[.slice a1 l1 c1, .slice a2 l2 c2, .int .i64 0]) (by rw [E1.out, E2.out]; rfl) (H1.out.later b1) (H2.out.later b1) (fun e => by omega) (fun e => by omega) (fun e => by omega) (by simp; omega) (by decide) OK.out IR.out
  simp only [World.size_alloc] at hF
  exact ⟨_, F, rfl, hF, hFB, by omega, b1.alloc (by simp) _⟩
set_option maxRecDepth 100000 in
set_option maxHeartbeats 2000000 in
theorem made_7 (B : Nat) (w : World) (a1 a2 : Option Addr) (c1 c2 : Nat) (zs : List Int) (a : Option Addr) (len cap : Nat) (h1 : CapR B w a1 c1 (insS 7 zs)) (h2 : CapR B w a2 c2 (outsS 7 zs)) (hB : B ≤ w.heap.size) (ok : okS 7 zs = true) (inr : InR zs) (hl : zs.length = len) (hA : At w a zs) (hn : a = none → len = 0 ∧ cap = 0) :
    Calls Try.prog 26 #[.int .u8 7, .agg #[.slice a1 (insS 7 zs).length c1, .slice a2 (outsS 7 zs).length c2, .int .i64 0], .slice a len cap] w (MadeEnd B w 7 zs) := by
  have u1 := hA
  have u2 := hn
  have u3 := hl
  obtain ⟨l1, e1⟩ : ∃ l, (insS 7 zs).length = l := ⟨_, rfl⟩
  obtain ⟨l2, e2⟩ : ∃ l, (outsS 7 zs).length = l := ⟨_, rfl⟩
  rw [e1, e2]
  have E1 := hidden6 e1
  have E2 := hidden6 e2
  have H1 := hidden6 h1
  have H2 := hidden6 h2
  have OK := hidden6 ok
  have IR := hidden6 inr
  clear u1 u2 u3 hA hn hl e1 e2 h1 h2 ok inr
  go_enter Try.func26, Try.ntmps26
  go_wp2
  go_ret
  have b1 := (Below.refl w.heap.size w).alloc (Nat.le_refl _) (.cells #[.slice a1 l1 c1, .slice a2 l2 c2, .int .i64 0] 66)
  obtain ⟨F, hF, hFB⟩ := kin_made (T := 7) (zs := zs) (a3 := none) (a4 := none) (c3 := 0) (c4 := 0) (cs := #[.slice a1 l1 c1, .slice a2 l2 c2, .int .i64 0]) (by rw [E1.out, E2.out]; rfl) (H1.out.later b1) (H2.out.later b1) (fun e => by omega) (fun e => by omega) (fun e => by omega) (by simp; omega) (by decide) OK.out IR.out
  simp only [World.size_alloc] at hF
  exact ⟨_, F, rfl, hF, hFB, by omega, b1.alloc (by simp) _⟩
set_option maxRecDepth 100000 in
set_option maxHeartbeats 2000000 in
theorem made_8 (B : Nat) (w : World) (a1 a2 : Option Addr) (c1 c2 : Nat) (zs : List Int) (a : Option Addr) (len cap : Nat) (h1 : CapR B w a1 c1 (insS 8 zs)) (h2 : CapR B w a2 c2 (outsS 8 zs)) (hB : B ≤ w.heap.size) (ok : okS 8 zs = true) (inr : InR zs) (hl : zs.length = len) (hA : At w a zs) (hn : a = none → len = 0 ∧ cap = 0) :
    Calls Try.prog 26 #[.int .u8 8, .agg #[.slice a1 (insS 8 zs).length c1, .slice a2 (outsS 8 zs).length c2, .int .i64 0], .slice a len cap] w (MadeEnd B w 8 zs) := by
  have u1 := hA
  have u2 := hn
  have u3 := hl
  obtain ⟨l1, e1⟩ : ∃ l, (insS 8 zs).length = l := ⟨_, rfl⟩
  obtain ⟨l2, e2⟩ : ∃ l, (outsS 8 zs).length = l := ⟨_, rfl⟩
  rw [e1, e2]
  have E1 := hidden6 e1
  have E2 := hidden6 e2
  have H1 := hidden6 h1
  have H2 := hidden6 h2
  have OK := hidden6 ok
  have IR := hidden6 inr
  clear u1 u2 u3 hA hn hl e1 e2 h1 h2 ok inr
  go_enter Try.func26, Try.ntmps26
  go_wp2
  go_ret
  have b1 := (Below.refl w.heap.size w).alloc (Nat.le_refl _) (.cells #[.slice a1 l1 c1, .slice a2 l2 c2, .int .i64 0] 66)
  obtain ⟨F, hF, hFB⟩ := kin_made (T := 8) (zs := zs) (a3 := none) (a4 := none) (c3 := 0) (c4 := 0) (cs := #[.slice a1 l1 c1, .slice a2 l2 c2, .int .i64 0, .int .i64 0]) (by rw [E1.out, E2.out]; rfl) (H1.out.later b1) (H2.out.later b1) (fun e => by omega) (fun e => by omega) (fun e => by omega) (by simp; omega) (by decide) OK.out IR.out
  simp only [World.size_alloc] at hF
  exact ⟨_, F, rfl, hF, hFB, by omega, b1.alloc (by simp) _⟩
set_option maxRecDepth 100000 in
set_option maxHeartbeats 2000000 in
theorem made_9 (B : Nat) (w : World) (a1 a2 : Option Addr) (c1 c2 : Nat) (zs : List Int) (a : Option Addr) (len cap : Nat) (h1 : CapR B w a1 c1 (insS 9 zs)) (h2 : CapR B w a2 c2 (outsS 9 zs)) (hB : B ≤ w.heap.size) (ok : okS 9 zs = true) (inr : InR zs) (hl : zs.length = len) (hA : At w a zs) (hn : a = none → len = 0 ∧ cap = 0) :
    Calls Try.prog 26 #[.int .u8 9, .agg #[.slice a1 (insS 9 zs).length c1, .slice a2 (outsS 9 zs).length c2, .int .i64 0], .slice a len cap] w (MadeEnd B w 9 zs) := by
  have u1 := hA
  have u2 := hn
  have u3 := hl
  obtain ⟨l1, e1⟩ : ∃ l, (insS 9 zs).length = l := ⟨_, rfl⟩
  obtain ⟨l2, e2⟩ : ∃ l, (outsS 9 zs).length = l := ⟨_, rfl⟩
  rw [e1, e2]
  have E1 := hidden6 e1
  have E2 := hidden6 e2
  have H1 := hidden6 h1
  have H2 := hidden6 h2
  have OK := hidden6 ok
  have IR := hidden6 inr
  clear u1 u2 u3 hA hn hl e1 e2 h1 h2 ok inr
  go_enter Try.func26, Try.ntmps26
  go_wp2
  go_ret
  have b1 := (Below.refl w.heap.size w).alloc (Nat.le_refl _) (.cells #[.slice a1 l1 c1, .slice a2 l2 c2, .int .i64 0] 66)
  obtain ⟨F, hF, hFB⟩ := kin_made (T := 9) (zs := zs) (a3 := none) (a4 := none) (c3 := 0) (c4 := 0) (cs := #[.slice a1 l1 c1, .slice a2 l2 c2, .int .i64 0]) (by rw [E1.out, E2.out]; rfl) (H1.out.later b1) (H2.out.later b1) (fun e => by omega) (fun e => by omega) (fun e => by omega) (by simp; omega) (by decide) OK.out IR.out
  simp only [World.size_alloc] at hF
  exact ⟨_, F, rfl, hF, hFB, by omega, b1.alloc (by simp) _⟩
set_option maxRecDepth 100000 in
set_option maxHeartbeats 2000000 in
theorem made_11 (B : Nat) (w : World) (a1 a2 : Option Addr) (c1 c2 : Nat) (zs : List Int) (a : Option Addr) (len cap : Nat) (h1 : CapR B w a1 c1 (insS 11 zs)) (h2 : CapR B w a2 c2 (outsS 11 zs)) (hB : B ≤ w.heap.size) (ok : okS 11 zs = true) (inr : InR zs) (hl : zs.length = len) (hA : At w a zs) (hn : a = none → len = 0 ∧ cap = 0) :
    Calls Try.prog 26 #[.int .u8 11, .agg #[.slice a1 (insS 11 zs).length c1, .slice a2 (outsS 11 zs).length c2, .int .i64 0], .slice a len cap] w (MadeEnd B w 11 zs) := by
  have u1 := hA
  have u2 := hn
  have u3 := hl
  obtain ⟨l1, e1⟩ : ∃ l, (insS 11 zs).length = l := ⟨_, rfl⟩
  obtain ⟨l2, e2⟩ : ∃ l, (outsS 11 zs).length = l := ⟨_, rfl⟩
  rw [e1, e2]
  have E1 := hidden6 e1
  have E2 := hidden6 e2
  have H1 := hidden6 h1
  have H2 := hidden6 h2
  have OK := hidden6 ok
  have IR := hidden6 inr
  clear u1 u2 u3 hA hn hl e1 e2 h1 h2 ok inr
  go_enter Try.func26, Try.ntmps26
  go_wp2
  go_ret
  have b1 := (Below.refl w.heap.size w).alloc (Nat.le_refl _) (.cells #[.slice a1 l1 c1, .slice a2 l2 c2, .int .i64 0] 66)
  obtain ⟨F, hF, hFB⟩ := kin_made (T := 11) (zs := zs) (a3 := none) (a4 := none) (c3 := 0) (c4 := 0) (cs := #[.slice a1 l1 c1, .slice a2 l2 c2, .int .i64 0]) (by rw [E1.out, E2.out]; rfl) (H1.out.later b1) (H2.out.later b1) (fun e => by omega) (fun e => by omega) (fun e => by omega) (by simp; omega) (by decide) OK.out IR.out
  simp only [World.size_alloc] at hF
  exact ⟨_, F, rfl, hF, hFB, by omega, b1.alloc (by simp) _⟩
set_option maxRecDepth 100000 in
set_option maxHeartbeats 2000000 in
theorem made_1 (B : Nat) (w : World) (a1 a2 : Option Addr) (c1 c2 : Nat) (zs : List Int) (a : Option Addr) (len cap : Nat) (h1 : CapR B w a1 c1 (insS 1 zs)) (h2 : CapR B w a2 c2 (outsS 1 zs)) (hB : B ≤ w.heap.size) (ok : okS 1 zs = true) (inr : InR zs) (hl : zs.length = len) (hA : At w a zs) (hn : a = none → len = 0 ∧ cap = 0) :
    Calls Try.prog 26 #[.int .u8 1, .agg #[.slice a1 (insS 1 zs).length c1, .slice a2 (outsS 1 zs).length c2, .int .i64 0], .slice a len cap] w (MadeEnd B w 1 zs) := by
  obtain ⟨l1, e1⟩ : ∃ l, (insS 1 zs).length = l := ⟨_, rfl⟩
  obtain ⟨l2, e2⟩ : ∃ l, (outsS 1 zs).length = l := ⟨_, rfl⟩
  rw [e1, e2]
  have E1 := hidden6 e1
  have E2 := hidden6 e2
  have H1 := hidden6 h1
  have H2 := hidden6 h2
  have OK := hidden6 ok
  have IR := hidden6 inr
  have hzl := wB_bound (show wB (zs.length : Int) 16 = true from ok)
  obtain ⟨N, rfl⟩ : ∃ N, len = N + 1 := ⟨len - 1, by omega⟩
  have hmk := run_make_row' (P := Try.prog) 22 3 (.int .i64 0) 8 Try.underlying22 Try.info3 rfl .i64 .i64 N (by omega) (by omega)
  have hN16 : N ≤ 16 := by omega
  have HW : IntKind.i64.wrap (N : Int) = (N : Int) := by rw [IntKind.wrap_i64]; omega
  obtain ⟨O, hO⟩ : ∃ O, Obj.cells #[.slice a1 l1 c1, .slice a2 l2 c2, .int .i64 0] 66 = O := ⟨_, rfl⟩
  have bO := hidden6 ((Below.refl w.heap.size w).alloc (Nat.le_refl _) O)
  have CL : Hid (∀ V, At V a zs → Calls Try.prog 42 #[.slice a (N + 1) cap] V (RowEnd V zs)) := fun V h => clone_any a zs (N + 1) cap V hl (by omega) (fun e => hn e) h
  have HA := hidden6 (hA.below bO.out)
  have BN := hidden6 (blkA_new 66 w #[.slice a1 l1 c1, .slice a2 l2 c2, .int .i64 0])
  rw [hO] at BN
  have q0 := BN.out.cell (k := 0) rfl
  have q1 := BN.out.cell (k := 1) rfl
  have q2 := BN.out.cell (k := 2) rfl
  have HL := hidden6 hl
  clear hA hn hl e1 e2 h1 h2 ok inr BN
  go_enter Try.func26, Try.ntmps26
  go_wp2
  try rw [hO]
  refine wp_region_said 7 (fun i u v => match i with
      | 0 => v = .agg #[.slice a1 l1 c1, .slice a2 l2 c2, .int .i64 0]
      | 1 => v = .slice a (N + 1) cap
      | 2 => Mk w.heap.size u zs v
      | 3 => v = .slice a (N + 1) cap
      | 4 => v = .int .i64 ((N : Int) + 1)
      | 5 => v = .int .i64 (N : Int)
      | 6 => MkS w.heap.size u (List.replicate N 0) v
      | _ => True) (by kernel_rfl) (by kernel_rfl) (by kernel_rfl) (by kernel_rfl) ?_ ?_ ?_
  · intro i w v w' h hb
    match i, h with
    | 0, h => exact h
    | 1, h => exact h
    | 2, h => exact Mk.later h hb
    | 3, h => exact h
    | 4, h => exact h
    | 5, h => exact h
    | 6, h => exact MkS.later h hb
    | _ + 7, _ => trivial
  · intro i o ρ w' hi ho hb hc hf hfr hdep
    have k0 := cell_keep6 hb q0
    have k1 := cell_keep6 hb q1
    have k2 := cell_keep6 hb q2
    match i, hi with
    | 0, _ =>
      simp only [List.getElem?_toArray, List.getElem?_cons_zero, Option.some.injEq] at ho
      subst ho
      have ts : ρ (.tmp 4) = .pointer (some ⟨w.heap.size, 0, none⟩) := hfr 4 (by kernel_rfl)
      simp [go_sem, ts, k0, k1, k2]
      exact ⟨Below.refl _ _, rfl⟩
    | 1, _ =>
      simp only [List.getElem?_toArray, List.getElem?_cons_zero, List.getElem?_cons_succ, Option.some.injEq] at ho
      subst ho
      have ts : ρ (.tmp 2) = .slice a (N + 1) cap := hfr 2 (by kernel_rfl)
      simp [go_sem, ts]
      exact ⟨Below.refl _ _, rfl⟩
    | 2, _ =>
      simp only [List.getElem?_toArray, List.getElem?_cons_zero, List.getElem?_cons_succ, Option.some.injEq] at ho
      subst ho
      have ts : ρ (.tmp 11) = .slice a (N + 1) cap := hdep 1 11 (by kernel_rfl) (by kernel_rfl)
      simp [go_sem, ts, hf]
      exact ⟨rfl, said_of (CL.out w' (HA.out.below hb)) (by have := hb.size; simp at this; omega)⟩
    | 3, _ =>
      simp only [List.getElem?_toArray, List.getElem?_cons_zero, List.getElem?_cons_succ, Option.some.injEq] at ho
      subst ho
      have ts : ρ (.tmp 2) = .slice a (N + 1) cap := hfr 2 (by kernel_rfl)
      simp [go_sem, ts]
      exact ⟨Below.refl _ _, rfl⟩
    | 4, _ =>
      simp only [List.getElem?_toArray, List.getElem?_cons_zero, List.getElem?_cons_succ, Option.some.injEq] at ho
      subst ho
      have ts : ρ (.tmp 13) = .slice a (N + 1) cap := hdep 3 13 (by kernel_rfl) (by kernel_rfl)
      simp [go_sem, ts]
      exact ⟨Below.refl _ _, rfl⟩
    | 5, _ =>
      simp only [List.getElem?_toArray, List.getElem?_cons_zero, List.getElem?_cons_succ, Option.some.injEq] at ho
      subst ho
      have ts : ρ (.tmp 14) = .int .i64 ((N : Int) + 1) := hdep 4 14 (by kernel_rfl) (by kernel_rfl)
      simp [go_sem, ts, hc, HW]
      exact ⟨Below.refl _ _, rfl⟩
    | 6, _ =>
      simp only [List.getElem?_toArray, List.getElem?_cons_zero, List.getElem?_cons_succ, Option.some.injEq] at ho
      subst ho
      have ts : ρ (.tmp 15) = .int .i64 (N : Int) := hdep 5 15 (by kernel_rfl) (by kernel_rfl)
      simp [go_sem, ts, hmk]
      exact ⟨(Below.refl _ _).alloc (Nat.le_refl _) _, _, _, (by simp), (made_alloc w' N (by omega)).mono (by have := hb.size; simp at this; omega)⟩
  · intro V w9 q9 hS
    have e0 : V 0 = .agg #[.slice a1 l1 c1, .slice a2 l2 c2, .int .i64 0] := hS 0 (by decide)
    have e1 : V 1 = .slice a (N + 1) cap := hS 1 (by decide)
    obtain ⟨a12, n12, e2, M2⟩ : Mk w.heap.size w9 zs (V 2) := hS 2 (by decide)
    have e3 : V 3 = .slice a (N + 1) cap := hS 3 (by decide)
    have e4 : V 4 = .int .i64 ((N : Int) + 1) := hS 4 (by decide)
    have e5 : V 5 = .int .i64 (N : Int) := hS 5 (by decide)
    obtain ⟨a16, n16, e6, M6⟩ : MkS w.heap.size w9 (List.replicate N 0) (V 6) := hS 6 (by decide)
    simp only [List.drop_succ_cons, List.drop_zero, List.take_succ_cons, List.take_zero, puts, e0, e1, e2, e3, e4, e5, e6]
    clear hS e0 e1 e2 e3 e4 e5 e6 V
    go_wp2
    go_ret
    have b9 := bO.out.trans (q9.mono bO.out.size)
    have hk : keepS 1 zs = List.replicate N 0 := by show List.replicate (zs.length - 1) 0 = _; rw [HL.out]; rfl
    have hB2 : B ≤ w.heap.size := hB
    obtain ⟨F, hF, hFB⟩ := kin_made (B := B) (T := 1) (zs := zs) (a3 := a12) (a4 := some ⟨a16, 0, none⟩) (c3 := n12) (c4 := n16) (cs := #[.slice a1 l1 c1, .slice a2 l2 c2, .int .i64 0, .slice a12 zs.length n12, .slice (some ⟨a16, 0, none⟩) N n16]) (by rw [E1.out, E2.out, hk, List.length_replicate]; rfl) (H1.out.later b9) (H2.out.later b9) (fun _ => M2.mono hB2) (fun _ => by rw [hk]; exact M6.mono hB2) (fun _ => ⟨a16, rfl⟩) (by have := b9.size; omega) (by decide) OK.out IR.out
    exact ⟨_, F, rfl, hF, hFB, by have := b9.size; omega, b9.alloc b9.size _⟩
set_option maxRecDepth 100000 in
set_option maxHeartbeats 2000000 in
theorem made_10 (B : Nat) (w : World) (a1 a2 : Option Addr) (c1 c2 : Nat) (zs : List Int) (a : Option Addr) (len cap : Nat) (h1 : CapR B w a1 c1 (insS 10 zs)) (h2 : CapR B w a2 c2 (outsS 10 zs)) (hB : B ≤ w.heap.size) (ok : okS 10 zs = true) (inr : InR zs) (hl : zs.length = len) (hA : At w a zs) (hn : a = none → len = 0 ∧ cap = 0) :
    Calls Try.prog 26 #[.int .u8 10, .agg #[.slice a1 (insS 10 zs).length c1, .slice a2 (outsS 10 zs).length c2, .int .i64 0], .slice a len cap] w (MadeEnd B w 10 zs) := by
  obtain ⟨l1, e1⟩ : ∃ l, (insS 10 zs).length = l := ⟨_, rfl⟩
  obtain ⟨l2, e2⟩ : ∃ l, (outsS 10 zs).length = l := ⟨_, rfl⟩
  rw [e1, e2]
  have E1 := hidden6 e1
  have E2 := hidden6 e2
  have H1 := hidden6 h1
  have H2 := hidden6 h2
  have OK := hidden6 ok
  have IR := hidden6 inr
  have u2 := hn
  have hl2 : zs.length = 2 := of_decide_eq_true (show decide (zs.length = 2) = true from ok)
  have m0 : 0 < len := by omega
  have m1 : (1 : Int) < (len : Int) := by omega
  obtain ⟨O, hO⟩ : ∃ O, Obj.cells #[.slice a1 l1 c1, .slice a2 l2 c2, .int .i64 0] 66 = O := ⟨_, rfl⟩
  have bO := hidden6 ((Below.refl w.heap.size w).alloc (Nat.le_refl _) O)
  have BN := hidden6 (blkA_new 66 w #[.slice a1 l1 c1, .slice a2 l2 c2, .int .i64 0])
  rw [hO] at BN
  have q0 := BN.out.cell (k := 0) rfl
  have q1 := BN.out.cell (k := 1) rfl
  have q2 := BN.out.cell (k := 2) rfl
  rcases hA.below bO.out with h0 | ⟨b, off, rfl, hcc⟩
  · rw [h0] at hl2; simp at hl2
  have q3 := hcc 0 (by omega)
  have q4 := hcc 1 (by omega)
  rw [Nat.add_zero] at q3
  have P0 : Hid (nth zs 0 = nth (keepS 10 zs) 0) := hidden6 rfl
  obtain ⟨p0, hp0⟩ : ∃ p, nth zs 0 = p := ⟨_, rfl⟩
  obtain ⟨p1, hp1⟩ : ∃ p, nth zs 1 = p := ⟨_, rfl⟩
  rw [hp0] at q3
  rw [hp1] at q4
  have HP0 := hidden6 hp0
  have HP1 := hidden6 hp1
  clear hA hn u2 e1 e2 h1 h2 ok inr BN hcc hp0 hp1
  go_enter Try.func26, Try.ntmps26
  go_wp2
  try rw [hO]
  refine wp_region_said 7 (fun i u v => match i with
      | 0 => v = .agg #[.slice a1 l1 c1, .slice a2 l2 c2, .int .i64 0]
      | 1 => v = .slice (some ⟨b, off, none⟩) len cap
      | 2 => v = .pointer (some ⟨b, off, none⟩)
      | 3 => v = .int .i64 p0
      | 4 => v = .slice (some ⟨b, off, none⟩) len cap
      | 5 => v = .pointer (some ⟨b, off + 1, none⟩)
      | 6 => v = .int .i64 p1
      | _ => True) (by kernel_rfl) (by kernel_rfl) (by kernel_rfl) (by kernel_rfl) ?_ ?_ ?_
  · intro i w v w' h hb
    match i, h with
    | 0, h => exact h
    | 1, h => exact h
    | 2, h => exact h
    | 3, h => exact h
    | 4, h => exact h
    | 5, h => exact h
    | 6, h => exact h
    | _ + 7, _ => trivial
  · intro i o ρ w' hi ho hb hc hf hfr hdep
    have k0 := cell_keep6 hb q0
    have k1 := cell_keep6 hb q1
    have k2 := cell_keep6 hb q2
    have k3 := cell_keep6 hb q3
    have k4 := cell_keep6 hb q4
    match i, hi with
    | 0, _ =>
      simp only [List.getElem?_toArray, List.getElem?_cons_zero, Option.some.injEq] at ho
      subst ho
      have ts : ρ (.tmp 4) = .pointer (some ⟨w.heap.size, 0, none⟩) := hfr 4 (by kernel_rfl)
      simp [go_sem, ts, k0, k1, k2]
      exact ⟨Below.refl _ _, rfl⟩
    | 1, _ =>
      simp only [List.getElem?_toArray, List.getElem?_cons_zero, List.getElem?_cons_succ, Option.some.injEq] at ho
      subst ho
      have ts : ρ (.tmp 2) = .slice (some ⟨b, off, none⟩) len cap := hfr 2 (by kernel_rfl)
      simp [go_sem, ts]
      exact ⟨Below.refl _ _, rfl⟩
    | 2, _ =>
      simp only [List.getElem?_toArray, List.getElem?_cons_zero, List.getElem?_cons_succ, Option.some.injEq] at ho
      subst ho
      have ts : ρ (.tmp 71) = .slice (some ⟨b, off, none⟩) len cap := hdep 1 71 (by kernel_rfl) (by kernel_rfl)
      simp [go_sem, ts, hc, m0]
      exact ⟨Below.refl _ _, rfl⟩
    | 3, _ =>
      simp only [List.getElem?_toArray, List.getElem?_cons_zero, List.getElem?_cons_succ, Option.some.injEq] at ho
      subst ho
      have ts : ρ (.tmp 72) = .pointer (some ⟨b, off, none⟩) := hdep 2 72 (by kernel_rfl) (by kernel_rfl)
      simp [go_sem, ts, k3]
      exact ⟨Below.refl _ _, rfl⟩
    | 4, _ =>
      simp only [List.getElem?_toArray, List.getElem?_cons_zero, List.getElem?_cons_succ, Option.some.injEq] at ho
      subst ho
      have ts : ρ (.tmp 2) = .slice (some ⟨b, off, none⟩) len cap := hfr 2 (by kernel_rfl)
      simp [go_sem, ts]
      exact ⟨Below.refl _ _, rfl⟩
    | 5, _ =>
      simp only [List.getElem?_toArray, List.getElem?_cons_zero, List.getElem?_cons_succ, Option.some.injEq] at ho
      subst ho
      have ts : ρ (.tmp 74) = .slice (some ⟨b, off, none⟩) len cap := hdep 4 74 (by kernel_rfl) (by kernel_rfl)
      simp [go_sem, ts, hc, m1]
      exact ⟨Below.refl _ _, rfl⟩
    | 6, _ =>
      simp only [List.getElem?_toArray, List.getElem?_cons_zero, List.getElem?_cons_succ, Option.some.injEq] at ho
      subst ho
      have ts : ρ (.tmp 75) = .pointer (some ⟨b, off + 1, none⟩) := hdep 5 75 (by kernel_rfl) (by kernel_rfl)
      simp [go_sem, ts, k4]
      exact ⟨Below.refl _ _, rfl⟩
  · intro V w9 q9 hS
    have e0 : V 0 = .agg #[.slice a1 l1 c1, .slice a2 l2 c2, .int .i64 0] := hS 0 (by decide)
    have e1 : V 1 = .slice (some ⟨b, off, none⟩) len cap := hS 1 (by decide)
    have e2 : V 2 = .pointer (some ⟨b, off, none⟩) := hS 2 (by decide)
    have e3 : V 3 = .int .i64 p0 := hS 3 (by decide)
    have e4 : V 4 = .slice (some ⟨b, off, none⟩) len cap := hS 4 (by decide)
    have e5 : V 5 = .pointer (some ⟨b, off + 1, none⟩) := hS 5 (by decide)
    have e6 : V 6 = .int .i64 p1 := hS 6 (by decide)
    simp only [List.drop_succ_cons, List.drop_zero, List.take_succ_cons, List.take_zero, puts, e0, e1, e2, e3, e4, e5, e6]
    clear hS e0 e1 e2 e3 e4 e5 e6 V
    go_wp2
    go_ret
    have b9 := bO.out.trans (q9.mono bO.out.size)
    obtain ⟨F, hF, hFB⟩ := kin_made (T := 10) (zs := zs) (a3 := none) (a4 := none) (c3 := 0) (c4 := 0) (cs := #[.slice a1 l1 c1, .slice a2 l2 c2, .int .i64 0, .int .i64 p0, .int .i64 p1]) (by rw [E1.out, E2.out, ← HP0.out, ← HP1.out]; rfl) (H1.out.later b9) (H2.out.later b9) (fun e => by omega) (fun e => by omega) (fun e => by omega) (by have := b9.size; omega) (by decide) OK.out IR.out
    exact ⟨_, F, rfl, hF, hFB, by have := b9.size; omega, b9.alloc b9.size _⟩
theorem made_any (t : Nat) (ht : 1 ≤ t ∧ t ≤ 11) (B : Nat) (w : World) (a1 a2 : Option Addr) (c1 c2 : Nat) (zs : List Int) (a : Option Addr) (len cap : Nat) (h1 : CapR B w a1 c1 (insS t zs)) (h2 : CapR B w a2 c2 (outsS t zs)) (hB : B ≤ w.heap.size) (ok : okS t zs = true) (inr : InR zs) (hl : zs.length = len) (hA : At w a zs) (hn : a = none → len = 0 ∧ cap = 0) :
    Calls Try.prog 26 #[.int .u8 (t : Int), .agg #[.slice a1 (insS t zs).length c1, .slice a2 (outsS t zs).length c2, .int .i64 0], .slice a len cap] w (MadeEnd B w t zs) := by
  revert h1 h2 ok
  revert t
  exact eleven (fun h1 h2 ok => made_1 B w a1 a2 c1 c2 zs a len cap h1 h2 hB ok inr hl hA hn) (fun h1 h2 ok => made_2 B w a1 a2 c1 c2 zs a len cap h1 h2 hB ok inr hl hA hn) (fun h1 h2 ok => made_3 B w a1 a2 c1 c2 zs a len cap h1 h2 hB ok inr hl hA hn) (fun h1 h2 ok => made_4 B w a1 a2 c1 c2 zs a len cap h1 h2 hB ok inr hl hA hn) (fun h1 h2 ok => made_5 B w a1 a2 c1 c2 zs a len cap h1 h2 hB ok inr hl hA hn) (fun h1 h2 ok => made_6 B w a1 a2 c1 c2 zs a len cap h1 h2 hB ok inr hl hA hn) (fun h1 h2 ok => made_7 B w a1 a2 c1 c2 zs a len cap h1 h2 hB ok inr hl hA hn) (fun h1 h2 ok => made_8 B w a1 a2 c1 c2 zs a len cap h1 h2 hB ok inr hl hA hn) (fun h1 h2 ok => made_9 B w a1 a2 c1 c2 zs a len cap h1 h2 hB ok inr hl hA hn) (fun h1 h2 ok => made_10 B w a1 a2 c1 c2 zs a len cap h1 h2 hB ok inr hl hA hn) (fun h1 h2 ok => made_11 B w a1 a2 c1 c2 zs a len cap h1 h2 hB ok inr hl hA hn)
/-- An actor at work, as it lies. -/
structure Bod (F : Nat → Prop) (w : World) (B K t : Nat) (zs ks : List Int) (n : Nat) : Prop where
  blk : BlkA 68 B w #[.iface (kP t) (.pointer (some ⟨K, 0, none⟩))]
  own : F B
  ne : B ≠ K
  kin : KinE F w K t zs ks n
theorem KinE.mem {F : Nat → Prop} {w : World} {K t : Nat} {zs ks : List Int} {n : Nat} (h : KinE F w K t zs ks n) : F K ∧ ∀ k, F k → k < w.heap.size := by
  obtain ⟨a1, a2, a3, a4, c1, c2, c3, c4, h⟩ := h
  exact ⟨h.own, h.low⟩
theorem Bod.keeps {F : Nat → Prop} {w w' : World} {B K t : Nat} {zs ks : List Int} {n : Nat} (h : Bod F w B K t zs ks n) (hk : ∀ k, F k → w'.heap[k]? = w.heap[k]?) : Bod F w' B K t zs ks n := ⟨h.blk.keep (hk B h.own), h.own, h.ne, h.kin.keeps hk⟩
theorem Bod.below {F : Nat → Prop} {w w' : World} {B K t : Nat} {zs ks : List Int} {n : Nat} (h : Bod F w B K t zs ks n) (hb : Below w.heap.size w w') : Bod F w' B K t zs ks n := h.keeps fun k hF => hb.block k (h.kin.mem.2 k hF)
theorem KinE.widen {F F' : Nat → Prop} {w : World} {K t : Nat} {zs ks : List Int} {n : Nat} (h : KinE F w K t zs ks n) (hF : ∀ k, F k → F' k) (hl : ∀ k, F' k → k < w.heap.size) : KinE F' w K t zs ks n := by
  obtain ⟨a1, a2, a3, a4, c1, c2, c3, c4, h⟩ := h
  exact ⟨a1, a2, a3, a4, c1, c2, c3, c4, h.blk, h.ins, h.outs, h.taps, h.kept, hF _ h.own, fun x hx => hF _ (h.f1 x hx), fun x hx => hF _ (h.f2 x hx), fun e x hx => hF _ (h.f3 e x hx), fun e x hx => hF _ (h.f4 e x hx), h.rows, h.some4, h.tag, h.ok, h.keep, h.inr, hl⟩
def NewEnd (w : World) (t : Nat) (zs : List Int) (e : Ending) (w' : World) : Prop :=
  ((ofS t zs).2.2 = 0 ∧ okS t zs = true ∧ (1 ≤ t ∧ t ≤ 11) ∧ ∃ B K F, e = .returned (.tuple #[.pointer (some ⟨B, 0, none⟩), .int .i64 0]) ∧ Bod F w' B K t zs (keepS t zs) 0 ∧ (∀ k, F k → w.heap.size ≤ k) ∧ Below w.heap.size w w') ∨
  ((ofS t zs).2.2 ≠ 0 ∧ e = .returned (.tuple #[.pointer none, .int .i64 (ofS t zs).2.2]) ∧ Below w.heap.size w w')
set_option maxRecDepth 100000 in
set_option maxHeartbeats 2000000 in
theorem new_any (t : Nat) (a : Option Addr) (zs : List Int) (len cap : Nat) (w : World) (ht : t ≤ 255) (hl : zs.length = len) (inr : InR zs) (hn : a = none → len = 0 ∧ cap = 0) (hA : At w a zs) :
    Calls Try.prog 8 #[.int .u8 (t : Int), .slice a len cap] w (NewEnd w t zs) := by
  have OF := hidden6 (shapeOf_any t a zs len cap w ht hl hA)
  unfold OfEnd at OF
  by_cases h0 : (1 ≤ t ∧ t ≤ 11) ∧ okS t zs = true
  · obtain ⟨h1, h2⟩ := h0
    have e0 : ofS t zs = (insS t zs, outsS t zs, 0) := by unfold ofS; rw [if_pos h1, if_pos h2]
    have MD : Hid (∀ (w1 : World) a1 a2 c1 c2, Below w.heap.size w w1 → CapR w.heap.size w1 a1 c1 (insS t zs) → CapR w.heap.size w1 a2 c2 (outsS t zs) → Calls Try.prog 26 #[.int .u8 (t : Int), .agg #[.slice a1 (insS t zs).length c1, .slice a2 (outsS t zs).length c2, .int .i64 0], .slice a len cap] w1 (MadeEnd w.heap.size w1 t zs)) := fun w1 a1 a2 c1 c2 hb g1 g2 => made_any t h1 w.heap.size w1 a1 a2 c1 c2 zs a len cap g1 g2 hb.size h2 inr hl (hA.below hb) hn
    rw [e0] at OF
    have E0 := hidden6 e0
    have H1 := hidden6 h1
    have H2 := hidden6 h2
    clear h1 h2 hA hn inr e0
    unfold MadeEnd at MD
    generalize (insS t zs).length = l1 at *
    generalize (outsS t zs).length = l2 at *
    go_enter Try.func8, Try.ntmps8
    go_wp2_with (first
      | (go_at_call 26; (with_reducible refine (MD.out w1 x1 x2 d1 d2 b1 m1 m2).mono ?_); rintro e w2 ⟨K, F, rfl, hK, hF, hBK, b2⟩)
      | (go_at_call 25; (with_reducible refine OF.out.mono ?_); rintro e w1 ⟨x1, d1, x2, d2, rfl, m1, m2, mx, b1⟩))
    go_ret2
    have b3 := b1.trans (b2.mono b1.size)
    have hlow := hK.mem
    have ha := (Below.refl w2.heap.size w2).alloc (Nat.le_refl _) (.cells #[.iface (kP t) (.pointer (some ⟨K, 0, none⟩))] 68)
    refine .inl ⟨by rw [E0.out], H2.out, H1.out, w2.heap.size, K, fun k => F k ∨ k = w2.heap.size, rfl, ⟨blkA_new _ _ _, .inr rfl, ?_, (hK.below ha).widen (fun k h => .inl h) fun k h => ?_⟩, fun k h => ?_, b3.alloc b3.size _⟩
    · have := hlow.2 K hlow.1; omega
    · have hs : (w2.alloc (.cells #[.iface (kP t) (.pointer (some ⟨K, 0, none⟩))] 68)).heap.size = w2.heap.size + 1 := by simp
      rcases h with h | rfl
      · have := hlow.2 k h; omega
      · omega
    · rcases h with h | rfl
      · exact hF k h
      · exact b3.size
  · have e0 : ∃ f, ofS t zs = ([], [], f) ∧ f ≠ 0 := by
      unfold ofS
      by_cases h1 : 1 ≤ t ∧ t ≤ 11
      · rw [if_pos h1, if_neg (fun h => h0 ⟨h1, h⟩)]; exact ⟨61, rfl, by decide⟩
      · rw [if_neg h1]; exact ⟨60, rfl, by decide⟩
    obtain ⟨f, e1, hf⟩ := e0
    have u1 := hn
    have u2 := inr
    rw [e1] at OF
    have E1 := hidden6 e1
    have HF := hidden6 hf
    have hff : (f != 0) = true := by simpa using hf
    clear hA e1 h0 u1 u2 hn inr hf
    go_enter Try.func8, Try.ntmps8
    go_wp2_with (go_at_call 25; (with_reducible refine OF.out.mono ?_); rintro e w1 ⟨x1, d1, x2, d2, rfl, m1, m2, mx, b1⟩)
    go_ret2
    refine .inr ⟨by rw [E1.out]; exact HF.out, by rw [E1.out]; rfl, b1⟩
end Go.Proofs.Ythgblljokonejaa

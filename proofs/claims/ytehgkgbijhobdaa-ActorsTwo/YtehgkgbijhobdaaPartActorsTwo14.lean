/- Texts of one chain, laid one behind the other. -/
import Derived.Test.YtehgkgbijhobdaaPartActorsTwo10
import Derived.Test.YtehgkgbijhobdaaPartActorsTwo13
import Derived.Test.YtehgkgbijhobdaaPartActorsTwo8
namespace Go.Proofs.Ytehgkgbijhobdaa
open Go.ChangeShapes Go.WideShapes Go.ChangeAt Go.RowKit
theorem arg_tab (V : World) (r : Option Addr) (c : Nat) (L : List Int) (h : At V r L) (hL : InR L) : ArgL (V.alloc (.cells #[.slice r L.length c] 22)) (some ⟨V.heap.size, 0, none⟩) 1 [L] := by
  have hb := (Below.refl V.heap.size V).alloc (Nat.le_refl _) (.cells #[.slice r L.length c] 22)
  refine ⟨rfl, .inr ⟨_, 0, rfl, fun k hk => ?_⟩, fun k => ?_⟩
  · match k, hk with
    | 0, _ => exact ⟨r, c, (blkA_new 22 V #[.slice r L.length c]).cell rfl, h.below hb⟩
  · match k with
    | 0 => exact hL
    | k + 1 => exact inR0
theorem inR_one {x : Int} (h : -9223372036854775808 ≤ x ∧ x ≤ 9223372036854775807) : InR [x] := fun k => by
  cases k with
  | zero => exact h
  | succ k => rw [nth_none (by simp)]; decide
theorem arg_one (V : World) (x : Int) (h : -9223372036854775808 ≤ x ∧ x ≤ 9223372036854775807) : ArgL ((V.alloc (.cells #[.int .i64 x] 3)).alloc (.cells #[.slice (some ⟨V.heap.size, 0, none⟩) 1 1] 22)) (some ⟨V.heap.size + 1, 0, none⟩) 1 [[x]] := by
  have h1 := arg_tab (V.alloc (.cells #[.int .i64 x] 3)) (some ⟨V.heap.size, 0, none⟩) 1 [x] (capR_one V x).at (inR_one h)
  simp only [World.size_alloc] at h1
  exact h1
/-- A firing that gives one row on one port. -/
def OneR (F : Nat → Prop) (V : World) (B K t : Nat) (zs ks : List Int) (m : Nat) (L : List Int) (e : Ending) (w' : World) : Prop :=
  ∃ g c r c2 F', e = .returned (.tuple #[.slice (some ⟨g, 0, none⟩) 1 c, .int .i64 0]) ∧ w'.cell? ⟨g, 0, none⟩ = some (.slice r L.length c2) ∧ At w' r L ∧ Bod F' w' B K t zs ks m ∧ (∀ k, F' k → F k ∨ V.heap.size ≤ k) ∧ But K V w'
theorem one_of {F : Nat → Prop} {V W : World} {B K t : Nat} {zs ks ks' : List Int} {n : Nat} {I : List (List Int)} {L : List Int} {e : Ending} {w' : World} (h : FireEnd F W B K t zs ks n I e w') (hr : fireS t zs ks I = (0, [L], ks')) (hV : Below V.heap.size V W) : OneR F V B K t zs ks' (n + 1) L e w' := by
  unfold FireEnd at h
  rw [hr] at h
  obtain ⟨x, c, A, C, F', he, hO, hB, hF, hb⟩ := h
  rcases hO.tab with h0 | ⟨g, hx, h1, h2, h3, h4⟩
  · cases h0
  · subst hx
    refine ⟨g, c, A 0, C 0, F', he, h3 0 (by simp), (hO.rows 0 (by simp)).at, hB, fun k hk => ?_, (But.of_below hV).trans hb⟩
    rcases hF k hk with h | h
    · exact .inl h
    · exact .inr (Nat.le_trans hV.size h.1)
theorem below_two (V : World) (o o' : Obj) : Below V.heap.size V ((V.alloc o).alloc o') := ((Below.refl _ _).alloc (Nat.le_refl _) _).alloc (by simp) _
theorem but_below {K : Nat} {w0 w w' : World} (h : But K w w') (h0 : Below w0.heap.size w0 w) (hK : w0.heap.size ≤ K) : Below w0.heap.size w0 w' := h0.trans (h.below hK h0.size)
/-- An actor that is made without an error. -/
def Fresh (w : World) (t : Nat) (zs ks : List Int) (e : Ending) (w' : World) : Prop := ∃ B K F, e = .returned (.tuple #[.pointer (some ⟨B, 0, none⟩), .int .i64 0]) ∧ Bod F w' B K t zs ks 0 ∧ (∀ k, F k → w.heap.size ≤ k) ∧ Below w.heap.size w w'
theorem fresh_of {w : World} {t : Nat} {zs ks : List Int} {e : Ending} {w' : World} (h : NewEnd w t zs e w') (h0 : (ofS t zs).2.2 = 0) (hk : keepS t zs = ks) : Fresh w t zs ks e w' := by
  subst hk
  rcases h with ⟨-, -, -, h⟩ | ⟨h, -⟩
  · exact h
  · exact absurd h0 h
set_option maxRecDepth 100000 in
set_option maxHeartbeats 2000000 in
theorem awake7 (w : World) : Calls Try.prog 9 #[] w fun e w' => e = .returned (.bool true) ∧ Below w.heap.size w w' := by
  have NW : Hid (Calls Try.prog 6 #[.int .u8 8, .slice none 0 0] w (Fresh w 8 [] [0])) := (new_any 8 none [] 0 0 w (by decide) rfl inR0 (fun _ => ⟨rfl, rfl⟩) (Or.inl rfl)).mono fun _ _ h => fresh_of h rfl rfl
  have FR : Hid (∀ F V B K, Bod F V B K 8 [] [0] 0 → Calls Try.prog 18 #[.pointer (some ⟨B, 0, none⟩), .slice (some ⟨V.heap.size + 1, 0, none⟩) 1 1] ((V.alloc (.cells #[.int .i64 4] 3)).alloc (.cells #[.slice (some ⟨V.heap.size, 0, none⟩) 1 1] 22)) (OneR F V B K 8 [] [4] 1 [4])) := fun F V B K h =>
    (bfire_8 F _ B K [] [0] 0 _ 1 1 [[4]] (h.below (below_two V _ _)) (arg_one V 4 (by decide)) (by decide)).mono fun _ _ h => one_of h (by decide) (below_two V _ _)
  have FD : Hid (∀ F V B K, Bod F V B K 8 [] [4] 1 → Calls Try.prog 19 #[.pointer (some ⟨B, 0, none⟩)] V fun e w' => e = .returned (.int .i64 1) ∧ w' = V) := fun F V B K h => bfired_8 F V B K [] [4] 1 h
  have SD : Hid (∀ F V B K, Bod F V B K 8 [] [4] 1 → Calls Try.prog 20 #[.pointer (some ⟨B, 0, none⟩)] V (RowEnd V [4])) := fun F V B K h => bstate_8 F V B K [] [4] 1 h
  have S2 : Hid (∀ a c1 V ty, At V a [4] → Calls Try.prog 17 #[.slice a 1 c1, .slice (some ⟨V.heap.size, 0, none⟩) 1 1] (V.alloc (.cells #[.int .i64 4] ty)) fun e w' => e = .returned (.bool true) ∧ Below V.heap.size V w') := fun a c1 V ty h =>
    (same6 [4] a _ c1 1 _ (by simp) (h.below ((Below.refl _ _).alloc (Nat.le_refl _) _)) (at1n V 4 ty)).mono fun _ _ ⟨he, hb⟩ => ⟨he, ((Below.refl V.heap.size V).alloc (Nat.le_refl _) _).trans (hb.mono (by simp))⟩
  go_enter Try.func9, Try.ntmps9
  go_wp2_with (first
    | (go_at_call 17; (with_reducible refine (S2.out x5 c5 w5 _ m5.at).mono ?_); rintro e w6 ⟨rfl, b6⟩)
    | (go_at_call 20; (with_reducible refine (SD.out F2 _ B K (hB2.below b3)).mono ?_); rintro e w5 ⟨x5, c5, rfl, m5, b5⟩)
    | (go_at_call 19; (with_reducible refine (FD.out F2 _ B K (hB2.below b3)).mono ?_); rintro e w4 ⟨rfl, rfl⟩)
    | (go_at_call 17; (with_reducible refine (S2.out r c2 w2 _ hr).mono ?_); rintro e w3 ⟨rfl, b3⟩)
    | (go_at_call 18; (with_reducible refine (FR.out F w1 B K hB).mono ?_); rintro e w2 ⟨g, c, r, c2, F2, rfl, hg, hr, hB2, hF2, b2⟩)
    | (go_at_call 6; (with_reducible refine NW.out.mono ?_); rintro e w1 ⟨B, K, F, rfl, hB, hF, b1⟩))
  go_ret
  have q2 := but_below b2 b1 (hF K hB.kin.mem.1)
  have q3 := q2.trans (b3.mono q2.size)
  have q5 := q3.trans (b5.mono q3.size)
  exact ⟨rfl, q5.trans (b6.mono q5.size)⟩
/-- No actor: the parameters may not be. -/
def Refused (w : World) (f : Int) (e : Ending) (w' : World) : Prop := e = .returned (.tuple #[.pointer none, .int .i64 f]) ∧ Below w.heap.size w w'
theorem refused_of {w : World} {t : Nat} {zs : List Int} {f : Int} {e : Ending} {w' : World} (h : NewEnd w t zs e w') (h0 : (ofS t zs).2.2 = f) (hf : f ≠ 0) : Refused w f e w' := by
  subst h0
  rcases h with ⟨h, -⟩ | ⟨-, h⟩
  · exact absurd h hf
  · exact h
/-- Two actors that share nothing. -/
structure Duo (L : Nat) (F G : Nat → Prop) (w : World) (B1 K1 t1 : Nat) (z1 k1 : List Int) (n1 B2 K2 t2 : Nat) (z2 k2 : List Int) (n2 : Nat) : Prop where
  one : Bod F w B1 K1 t1 z1 k1 n1
  two : Bod G w B2 K2 t2 z2 k2 n2
  s1 : ∀ k, F k → k ≠ K2
  s2 : ∀ k, G k → k ≠ K1
  l1 : L ≤ K1
  l2 : L ≤ K2
theorem Duo.below {L : Nat} {F G : Nat → Prop} {w w' : World} {B1 K1 t1 : Nat} {z1 k1 : List Int} {n1 B2 K2 t2 : Nat} {z2 k2 : List Int} {n2 : Nat} (h : Duo L F G w B1 K1 t1 z1 k1 n1 B2 K2 t2 z2 k2 n2) (hb : Below w.heap.size w w') : Duo L F G w' B1 K1 t1 z1 k1 n1 B2 K2 t2 z2 k2 n2 := ⟨h.one.below hb, h.two.below hb, h.s1, h.s2, h.l1, h.l2⟩
theorem Duo.fire1 {L : Nat} {F F' G : Nat → Prop} {w w' : World} {B1 K1 t1 : Nat} {z1 k1 k1' : List Int} {n1 n1' B2 K2 t2 : Nat} {z2 k2 : List Int} {n2 : Nat} (h : Duo L F G w B1 K1 t1 z1 k1 n1 B2 K2 t2 z2 k2 n2) (h1 : Bod F' w' B1 K1 t1 z1 k1' n1') (hF : ∀ k, F' k → F k ∨ w.heap.size ≤ k) (hb : But K1 w w') : Duo L F' G w' B1 K1 t1 z1 k1' n1' B2 K2 t2 z2 k2 n2 := by
  have m2 := h.two.kin.mem
  refine ⟨h1, h.two.keeps fun k hk => hb.block k (m2.2 k hk) (h.s2 k hk), fun k hk => ?_, h.s2, h.l1, h.l2⟩
  rcases hF k hk with h3 | h3
  · exact h.s1 k h3
  · have := m2.2 K2 m2.1; omega
theorem Duo.swap {L : Nat} {F G : Nat → Prop} {w : World} {B1 K1 t1 : Nat} {z1 k1 : List Int} {n1 B2 K2 t2 : Nat} {z2 k2 : List Int} {n2 : Nat} (h : Duo L F G w B1 K1 t1 z1 k1 n1 B2 K2 t2 z2 k2 n2) : Duo L G F w B2 K2 t2 z2 k2 n2 B1 K1 t1 z1 k1 n1 := ⟨h.two, h.one, h.s2, h.s1, h.l2, h.l1⟩
theorem duo_start {w w1 w2 : World} {F G : Nat → Prop} {B1 K1 t1 : Nat} {z1 k1 : List Int} {n1 B2 K2 t2 : Nat} {z2 k2 : List Int} {n2 : Nat} (h1 : Bod F w1 B1 K1 t1 z1 k1 n1) (hF : ∀ k, F k → w.heap.size ≤ k) (h2 : Bod G w2 B2 K2 t2 z2 k2 n2) (hG : ∀ k, G k → w1.heap.size ≤ k) (hb : Below w1.heap.size w1 w2) : Duo w.heap.size F G w2 B1 K1 t1 z1 k1 n1 B2 K2 t2 z2 k2 n2 := by
  have m1 := h1.kin.mem
  have m2 := h2.kin.mem
  have g2 := hG K2 m2.1
  have g1 := m1.2 K1 m1.1
  refine ⟨h1.below hb, h2, fun k hk => ?_, fun k hk => ?_, hF K1 m1.1, ?_⟩
  · have := m1.2 k hk; omega
  · have := hG k hk; omega
  · have := hF K1 m1.1; omega
/-- The document's actor, as it lies: a value of six cells. -/
def RA (t : Nat) (p i o k : Value) (n : Int) : Value := .agg #[.int .u8 (t : Int), p, i, o, k, .int .i64 n]
/-- The document's actor is this one. -/
def IsRA (B : Nat) (w : World) (t : Nat) (zs ks : List Int) (n : Nat) (v : Value) : Prop :=
  ∃ p cp i ci o co k ck, v = RA t (.slice p zs.length cp) (.slice i (insS t zs).length ci) (.slice o (outsS t zs).length co) (.slice k ks.length ck) (n : Int) ∧ At w p zs ∧ At w i (insS t zs) ∧ At w o (outsS t zs) ∧ At w k ks ∧
    (∀ x : Addr, p = some x → B ≤ x.block ∧ x.block < w.heap.size) ∧ (∀ x : Addr, i = some x → B ≤ x.block ∧ x.block < w.heap.size) ∧ (∀ x : Addr, o = some x → B ≤ x.block ∧ x.block < w.heap.size) ∧ (∀ x : Addr, k = some x → B ≤ x.block ∧ x.block < w.heap.size) ∧ (t = 1 → ∃ b off, k = some ⟨b, off, none⟩)
def RNewEnd (w : World) (t : Nat) (zs : List Int) (e : Ending) (w' : World) : Prop :=
  ((ofS t zs).2.2 = 0 ∧ ∃ v, e = .returned (.tuple #[v, .int .i64 0]) ∧ IsRA w.heap.size w' t zs (keepS t zs) 0 v ∧ Below w.heap.size w w') ∨
  ((ofS t zs).2.2 ≠ 0 ∧ e = .returned (.tuple #[.agg #[.int .u8 0, .slice none 0 0, .slice none 0 0, .slice none 0 0, .slice none 0 0, .int .i64 0], .int .i64 (ofS t zs).2.2]) ∧ Below w.heap.size w w')
theorem six_set {w w1 : World} (h : Below w.heap.size w w1) {b : Nat} (hb : w.heap.size ≤ b) (x0 x1 x2 x3 x4 x5 : Value) : Below w.heap.size w ((((((w1.setCell ⟨b, 0, none⟩ x0).setCell ⟨b, 1, none⟩ x1).setCell ⟨b, 2, none⟩ x2).setCell ⟨b, 3, none⟩ x3).setCell ⟨b, 4, none⟩ x4).setCell ⟨b, 5, none⟩ x5) :=
  (((((h.setCell (p := ⟨b, 0, none⟩) hb _).setCell (p := ⟨b, 1, none⟩) hb _).setCell (p := ⟨b, 2, none⟩) hb _).setCell (p := ⟨b, 3, none⟩) hb _).setCell (p := ⟨b, 4, none⟩) hb _).setCell (p := ⟨b, 5, none⟩) hb _
set_option maxRecDepth 100000 in
set_option maxHeartbeats 4000000 in
theorem rnew7_bad (t : Nat) (a : Option Addr) (zs : List Int) (len cap : Nat) (w : World) (ht : t ≤ 255) (hA : Arg w a len cap zs) (hf : (ofS t zs).2.2 ≠ 0) : Calls Try.prog 7 #[.int .u8 (t : Int), .slice a len cap] w (RNewEnd w t zs) := by
  have ba := (Below.refl w.heap.size w).alloc (Nat.le_refl _) (.cells #[.int .u8 0, .slice none 0 0, .slice none 0 0, .slice none 0 0, .slice none 0 0, .int .i64 0] 31)
  have OF := hidden6 (rof_any t a zs len cap _ ht hA.size (hA.lies.below ba))
  have BA := hidden6 ba
  have V4 := hidden6 (blkA_new 31 w #[.int .u8 0, .slice none 0 0, .slice none 0 0, .slice none 0 0, .slice none 0 0, .int .i64 0])
  have HF := hidden6 hf
  unfold OfEnd at OF
  obtain ⟨f, hff⟩ : ∃ f, (ofS t zs).2.2 = f := ⟨_, rfl⟩
  have E2 : Hid ((ofS t zs).2.2 = f) := hff
  rw [hff] at hf
  have q1 : (f != 0) = true := by simpa using hf
  rw [hff] at OF
  generalize (ofS t zs).1 = P at OF
  generalize (ofS t zs).2.1 = Q at OF
  clear hA ba hf hff
  go_enter Try.func7, Try.ntmps7
  go_wp2_with (go_at_call 15; (with_reducible refine OF.out.mono ?_); rintro e w1 ⟨x1, d1, x2, d2, rfl, m1, m2, mx, b1⟩; have Z4 := V4.out.below b1; have z0 := Z4.cell (k := 0) rfl; have z1 := Z4.cell (k := 1) rfl; have z2 := Z4.cell (k := 2) rfl; have z3 := Z4.cell (k := 3) rfl; have z4 := Z4.cell (k := 4) rfl; have z5 := Z4.cell (k := 5) rfl; have f0 := Z4.frozen 0; have f1 := Z4.frozen 1; have f2 := Z4.frozen 2; have f3 := Z4.frozen 3; have f4 := Z4.frozen 4; have f5 := Z4.frozen 5; have BB := hidden6 (BA.out.trans (b1.mono BA.out.size)); have L4 := Z4.lt; clear Z4 m1 m2 mx b1)
  refine bodyPost_ret (v := .tuple #[.agg #[.int .u8 0, .slice none 0 0, .slice none 0 0, .slice none 0 0, .slice none 0 0, .int .i64 0], .int .i64 f]) (by simp [results, Try.results7, go_sem, z0, z1, z2, z3, z4, z5]) rfl ?_
  exact .inr ⟨HF.out, by rw [E2.out], six_set BB.out (Nat.le_refl _) _ _ _ _ _ _⟩
theorem rnew_end {w w2 wf : World} {t b4 len : Nat} {zs : List Int} {p i o k : Option Addr} {cp ci co ck : Nat} {e : Ending} (h0 : ofS t zs = (insS t zs, outsS t zs, 0)) (hl : zs.length = len) (hb2 : Below w.heap.size w w2) (h4 : w.heap.size ≤ b4) (hp : CapR (b4 + 1) w2 p cp zs) (hi : CapR (b4 + 1) w2 i ci (insS t zs)) (ho : CapR (b4 + 1) w2 o co (outsS t zs)) (hk : At wf k (keepS t zs)) (hbut : But b4 w2 wf) (hk2 : ∀ x : Addr, k = some x → w.heap.size ≤ x.block ∧ x.block < wf.heap.size) (h41 : t = 1 → ∃ b off, k = some ⟨b, off, none⟩)
    (he : e = .returned (.tuple #[RA t (.slice p len cp) (.slice i (insS t zs).length ci) (.slice o (outsS t zs).length co) (.slice k (keepS t zs).length ck) 0, .int .i64 0])) : RNewEnd w t zs e wf := by
  subst hl
  have far : ∀ {a : Option Addr} {c : Nat} {l : List Int}, CapR (b4 + 1) w2 a c l → At wf a l := fun h => h.at.block fun x hx => hbut.block _ (h.lt x hx).2 (by have := (h.lt x hx).1; omega)
  have blk : ∀ {a : Option Addr} {c : Nat} {l : List Int}, CapR (b4 + 1) w2 a c l → ∀ x : Addr, a = some x → w.heap.size ≤ x.block ∧ x.block < wf.heap.size := fun h x hx => by
    have h1 := h.lt x hx
    have h2 := hbut.size
    omega
  exact .inl ⟨by rw [h0], _, he, ⟨p, cp, i, ci, o, co, k, ck, rfl, far hp, far hi, far ho, hk, blk hp, blk hi, blk ho, hk2, h41⟩, hb2.trans (hbut.below h4 hb2.size)⟩
theorem times7_any (a b : Int) (w : World) (ha : -9223372036854775808 ≤ a ∧ a ≤ 9223372036854775807) (hb : -9223372036854775808 ≤ b ∧ b ≤ 9223372036854775807) :
    Calls Try.prog 44 #[.int .i64 a, .int .i64 b] w fun e w' => e = .returned (.tuple #[.int .i64 (fitV (a * b)), .bool (fitB (a * b))]) ∧ w' = w := by
  by_cases g0 : a = 0
  · subst g0
    have hv : fitV (0 * b) = 0 := by rw [Int.zero_mul]; decide
    have ht : fitB (0 * b) = true := by rw [Int.zero_mul]; decide
    rw [hv, ht]
    go_enter Try.func44, Try.ntmps44
    go_wp2
    go_ret2
    exact ⟨rfl, rfl⟩
  have ha0 : (a == 0) = false := by simpa using g0
  by_cases h0 : b = 0
  · subst h0
    have hv : fitV (a * 0) = 0 := by rw [Int.mul_zero]; decide
    have ht : fitB (a * 0) = true := by rw [Int.mul_zero]; decide
    rw [hv, ht]
    go_enter Try.func44, Try.ntmps44
    go_wp2
    go_ret2
    exact ⟨rfl, rfl⟩
  have hb0 : (b == 0) = false := by simpa using h0
  by_cases g1 : a = -1 ∧ b = -9223372036854775808
  · obtain ⟨rfl, rfl⟩ := g1
    go_enter Try.func44, Try.ntmps44
    go_wp2
    go_ret2
    exact ⟨rfl, rfl⟩
  by_cases g2 : b = -1 ∧ a = -9223372036854775808
  · obtain ⟨rfl, rfl⟩ := g2
    go_enter Try.func44, Try.ntmps44
    go_wp2
    go_ret2
    exact ⟨rfl, rfl⟩
  have K : (-9223372036854775808 ≤ a * b ∧ a * b ≤ 9223372036854775807 ∧ wrap64 (a * b) = a * b ∧ wrap64 ((a * b).tdiv b) = a) ∨ (¬ (-9223372036854775808 ≤ a * b ∧ a * b ≤ 9223372036854775807) ∧ (wrap64 ((wrap64 (a * b)).tdiv b) != a) = true) := by
    by_cases h : -9223372036854775808 ≤ a * b ∧ a * b ≤ 9223372036854775807
    · exact .inl ⟨h.1, h.2, back_yes h0 ha h⟩
    · by_cases h1 : b = -1
      · subst h1
        exact absurd (by omega) h
      · exact .inr ⟨h, by simpa using back_no h0 hb h h1 ha⟩
  rcases K with ⟨k1, k2, k3, k4⟩ | ⟨h, hk⟩
  · rw [fitV_yes ⟨k1, k2⟩, fitB_yes ⟨k1, k2⟩]
    have hk : (a != a) = false := by simp
    by_cases e1 : a = -1
    · have e2 : (b == -9223372036854775808) = false := by have : b ≠ -9223372036854775808 := fun e => g1 ⟨e1, e⟩; simpa using this
      have e3 : (a == -1) = true := by simpa using e1
      by_cases e4 : b = -1
      · have e5 : (b == -1) = true := by simpa using e4
        have e6 : (a == -9223372036854775808) = false := by have : a ≠ -9223372036854775808 := fun e => g2 ⟨e4, e⟩; simpa using this
        clear e1 e4 g1 g2
        go_enter Try.func44, Try.ntmps44
        go_wp2
        go_ret2
        exact ⟨rfl, rfl⟩
      · have e5 : (b == -1) = false := by simpa using e4
        clear e1 e4 g1 g2
        go_enter Try.func44, Try.ntmps44
        go_wp2
        go_ret2
        exact ⟨rfl, rfl⟩
    · have e3 : (a == -1) = false := by simpa using e1
      by_cases e4 : b = -1
      · have e5 : (b == -1) = true := by simpa using e4
        have e6 : (a == -9223372036854775808) = false := by have : a ≠ -9223372036854775808 := fun e => g2 ⟨e4, e⟩; simpa using this
        clear e1 e4 g1 g2
        go_enter Try.func44, Try.ntmps44
        go_wp2
        go_ret2
        exact ⟨rfl, rfl⟩
      · have e5 : (b == -1) = false := by simpa using e4
        clear e1 e4 g1 g2
        go_enter Try.func44, Try.ntmps44
        go_wp2
        go_ret2
        exact ⟨rfl, rfl⟩
  · rw [fitV_no h, fitB_no h]
    clear h
    by_cases e1 : a = -1
    · have e2 : (b == -9223372036854775808) = false := by have : b ≠ -9223372036854775808 := fun e => g1 ⟨e1, e⟩; simpa using this
      have e3 : (a == -1) = true := by simpa using e1
      by_cases e4 : b = -1
      · have e5 : (b == -1) = true := by simpa using e4
        have e6 : (a == -9223372036854775808) = false := by have : a ≠ -9223372036854775808 := fun e => g2 ⟨e4, e⟩; simpa using this
        clear e1 e4 g1 g2
        go_enter Try.func44, Try.ntmps44
        go_wp2
        go_ret2
        exact ⟨rfl, rfl⟩
      · have e5 : (b == -1) = false := by simpa using e4
        clear e1 e4 g1 g2
        go_enter Try.func44, Try.ntmps44
        go_wp2
        go_ret2
        exact ⟨rfl, rfl⟩
    · have e3 : (a == -1) = false := by simpa using e1
      by_cases e4 : b = -1
      · have e5 : (b == -1) = true := by simpa using e4
        have e6 : (a == -9223372036854775808) = false := by have : a ≠ -9223372036854775808 := fun e => g2 ⟨e4, e⟩; simpa using this
        clear e1 e4 g1 g2
        go_enter Try.func44, Try.ntmps44
        go_wp2
        go_ret2
        exact ⟨rfl, rfl⟩
      · have e5 : (b == -1) = false := by simpa using e4
        clear e1 e4 g1 g2
        go_enter Try.func44, Try.ntmps44
        go_wp2
        go_ret2
        exact ⟨rfl, rfl⟩
set_option maxRecDepth 100000 in
set_option maxHeartbeats 1000000 in
theorem plus7_any (a b : Int) (w : World) (ha : -9223372036854775808 ≤ a ∧ a ≤ 9223372036854775807) (hb : -9223372036854775808 ≤ b ∧ b ≤ 9223372036854775807) :
    Calls Try.prog 43 #[.int .i64 a, .int .i64 b] w fun e w' => e = .returned (.tuple #[.int .i64 (fitV (a + b)), .bool (fitB (a + b))]) ∧ w' = w := by
  by_cases h0 : b = 0
  · subst h0
    have hv : fitV (a + 0) = a := by rw [Int.add_zero]; exact fitV_yes ha
    have ht : fitB (a + 0) = true := by rw [Int.add_zero]; exact fitB_yes ha
    rw [hv, ht]
    have d1 : decide ((0 : Int) > 0) = false := by decide
    have d2 : decide ((0 : Int) < 0) = false := by decide
    go_enter Try.func43, Try.ntmps43
    go_wp2
    go_ret2
    exact ⟨by simp, rfl⟩
  by_cases hp : 0 < b
  · have hp2 : ¬ b < 0 := by omega
    by_cases hf : a + b ≤ 9223372036854775807
    · have hft : ¬ a > 9223372036854775807 - b := by omega
      have k1 : -9223372036854775808 ≤ a + b ∧ a + b ≤ 9223372036854775807 := by omega
      rw [fitV_yes k1, fitB_yes k1]
      go_enter Try.func43, Try.ntmps43
      go_wp2
      go_ret2
      exact ⟨rfl, rfl⟩
    · have hft : a > 9223372036854775807 - b := by omega
      have k1 : ¬ (-9223372036854775808 ≤ a + b ∧ a + b ≤ 9223372036854775807) := by omega
      rw [fitV_no k1, fitB_no k1]
      go_enter Try.func43, Try.ntmps43
      go_wp2
      go_ret2
      exact ⟨rfl, rfl⟩
  · have hn : b < 0 := by omega
    by_cases hf : -9223372036854775808 ≤ a + b
    · have hft : ¬ a < -9223372036854775808 - b := by omega
      have k1 : -9223372036854775808 ≤ a + b ∧ a + b ≤ 9223372036854775807 := by omega
      rw [fitV_yes k1, fitB_yes k1]
      go_enter Try.func43, Try.ntmps43
      go_wp2
      go_ret2
      exact ⟨rfl, rfl⟩
    · have hft : a < -9223372036854775808 - b := by omega
      have k1 : ¬ (-9223372036854775808 ≤ a + b ∧ a + b ≤ 9223372036854775807) := by omega
      rw [fitV_no k1, fitB_no k1]
      go_enter Try.func43, Try.ntmps43
      go_wp2
      go_ret2
      exact ⟨rfl, rfl⟩
end Go.Proofs.Ytehgkgbijhobdaa

/- Texts of one chain, laid one behind the other. -/
import Derived.Test.YtehgkgbijhobdaaPartActorsTwo18
import Derived.Test.YtehgkgbijhobdaaPartActorsTwo14
namespace Go.Proofs.Ytehgkgbijhobdaa
open Go.ChangeShapes Go.WideShapes Go.ChangeAt Go.RowKit
/-- An actor and the document's beside it, the latter in a box. -/
structure Play (L : Nat) (wr : World) (B K Q t : Nat) (zs ks : List Int) (n : Nat) (vs : Array Value) (F N : Nat → Prop) : Prop where
  bod : Bod F wr B K t zs ks n
  ref : IsRN N wr t zs ks n (.agg vs)
  box : BlkA 31 Q wr vs
  nl : ∀ k, N k → k < wr.heap.size
  nk : ¬ N K
  nq : ¬ N Q
  fq : ¬ F Q
  lk : L ≤ K
  lq : L ≤ Q
theorem Play.keeps {L : Nat} {w w' : World} {B K Q t : Nat} {zs ks : List Int} {n : Nat} {vs : Array Value} {F N : Nat → Prop} (h : Play L w B K Q t zs ks n vs F N) (hF : ∀ k, F k → w'.heap[k]? = w.heap[k]?) (hN : ∀ k, N k → w'.heap[k]? = w.heap[k]?) (hQ : w'.heap[Q]? = w.heap[Q]?) (hs : w.heap.size ≤ w'.heap.size) : Play L w' B K Q t zs ks n vs F N :=
  ⟨h.bod.keeps hF, h.ref.keeps hN, h.box.keep hQ, fun k hk => Nat.lt_of_lt_of_le (h.nl k hk) hs, h.nk, h.nq, h.fq, h.lk, h.lq⟩
theorem Play.below {L : Nat} {w w' : World} {B K Q t : Nat} {zs ks : List Int} {n : Nat} {vs : Array Value} {F N : Nat → Prop} (h : Play L w B K Q t zs ks n vs F N) (hb : Below w.heap.size w w') : Play L w' B K Q t zs ks n vs F N :=
  h.keeps (fun k hk => hb.block k (h.bod.kin.mem.2 k hk)) (fun k hk => hb.block k (h.nl k hk)) (hb.block Q h.box.lt) hb.size
/-- .. once it has fired, the box not yet filled anew. -/
def Shot (L : Nat) (B K Q t : Nat) (zs : List Int) (n : Nat) (u : World) (vs : Array Value) : Prop :=
  ∃ F N ks n' ov, n' ≤ n + 1 ∧ Bod F u B K t zs ks n' ∧ IsRN N u t zs ks n' (.agg vs) ∧ BlkA 31 Q u ov ∧ ov.size = 6 ∧ (∀ k, N k → k < u.heap.size) ∧ ¬ N K ∧ ¬ N Q ∧ ¬ F Q ∧ L ≤ K ∧ L ≤ Q
def After (L : Nat) (B K Q t : Nat) (zs : List Int) (n : Nat) (u : World) : Prop := ∃ F N ks n' vs, n' ≤ n + 1 ∧ Play L u B K Q t zs ks n' vs F N
theorem Shot.below {L : Nat} {B K Q t : Nat} {zs : List Int} {n : Nat} {u u' : World} {vs : Array Value} (h : Shot L B K Q t zs n u vs) (hb : Below u.heap.size u u') : Shot L B K Q t zs n u' vs := by
  obtain ⟨F, N, ks, n', ov, h1, h2, h3, h4, h5, h6, h7⟩ := h
  exact ⟨F, N, ks, n', ov, h1, h2.below hb, h3.keeps fun k hk => hb.block k (h6 k hk), h4.below hb, h5, fun k hk => Nat.lt_of_lt_of_le (h6 k hk) hb.size, h7⟩
theorem After.below {L : Nat} {B K Q t : Nat} {zs : List Int} {n : Nat} {u u' : World} (h : After L B K Q t zs n u) (hb : Below u.heap.size u u') : After L B K Q t zs n u' := by
  obtain ⟨F, N, ks, n', vs, h1, h2⟩ := h
  exact ⟨F, N, ks, n', vs, h1, h2.below hb⟩
theorem agg_inj {a b : Array Value} (h : Value.agg a = .agg b) : a = b := by injection h
theorem rn_agg {N : Nat → Prop} {w : World} {t : Nat} {zs ks : List Int} {n : Nat} {vs : Array Value} (h : IsRN N w t zs ks n (.agg vs)) : ∃ p cp iA li ci oA lo co kA ck, vs = #[.int .u8 (t : Int), .slice p zs.length cp, .slice iA li ci, .slice oA lo co, .slice kA ks.length ck, .int .i64 (n : Int)] ∧ (insS t zs).length = li ∧ (outsS t zs).length = lo := by
  obtain ⟨p, cp, iA, ci, oA, co, kA, ck, hv, -⟩ := h
  exact ⟨p, cp, iA, _, ci, oA, _, co, kA, ck, agg_inj hv, rfl, rfl⟩
/-- The document's actor beside two. -/
structure Ref2 (u : World) (K1 K2 t : Nat) (zs ks : List Int) (n : Nat) (vs : Array Value) (N : Nat → Prop) : Prop where
  ref : IsRN N u t zs ks n (.agg vs)
  nl : ∀ k, N k → k < u.heap.size
  n1 : ¬ N K1
  n2 : ¬ N K2
theorem Ref2.below {u u' : World} {K1 K2 t : Nat} {zs ks : List Int} {n : Nat} {vs : Array Value} {N : Nat → Prop} (h : Ref2 u K1 K2 t zs ks n vs N) (hb : Below u.heap.size u u') : Ref2 u' K1 K2 t zs ks n vs N :=
  ⟨h.ref.keeps fun k hk => hb.block k (h.nl k hk), fun k hk => Nat.lt_of_lt_of_le (h.nl k hk) hb.size, h.n1, h.n2⟩
theorem Ref2.but {u u' : World} {K1 K2 t : Nat} {zs ks : List Int} {n : Nat} {vs : Array Value} {N : Nat → Prop} (h : Ref2 u K1 K2 t zs ks n vs N) (hb : But K1 u u') : Ref2 u' K1 K2 t zs ks n vs N :=
  ⟨h.ref.keeps fun k hk => hb.block k (h.nl k hk) (fun e => h.n1 (e ▸ hk)), fun k hk => Nat.lt_of_lt_of_le (h.nl k hk) hb.size, h.n1, h.n2⟩
theorem Ref2.swap {u : World} {K1 K2 t : Nat} {zs ks : List Int} {n : Nat} {vs : Array Value} {N : Nat → Prop} (h : Ref2 u K1 K2 t zs ks n vs N) : Ref2 u K2 K1 t zs ks n vs N := ⟨h.ref, h.nl, h.n2, h.n1⟩
theorem BlkA.but {T : TypeId} {b K : Nat} {u u' : World} {cs : Array Value} (h : BlkA T b u cs) (hb : But K u u') (hK : b ≠ K) : BlkA T b u' cs := h.keep (hb.block b h.lt hK)
def TwoF (L : Nat) (G : Nat → Prop) (u : World) (B1 K1 B2 K2 t : Nat) (zs k2 : List Int) (n1 n2 : Nat) (e : Ending) (u' : World) : Prop :=
  ∃ vs k1 m F' N', e = .returned (.tuple #[.agg vs, .bool true]) ∧ Duo L F' G u' B1 K1 t zs k1 m B2 K2 t zs k2 n2 ∧ Ref2 u' K1 K2 t zs k1 m vs N' ∧ m ≤ n1 + 1 ∧ But K1 u u'
theorem two_fire {w u : World} {F G N : Nat → Prop} {B1 K1 B2 K2 t : Nat} {zs k1 k2 : List Int} {n1 n2 : Nat} {vs : Array Value} (tt : 1 ≤ t ∧ t ≤ 11) (hD : Duo w.heap.size F G u B1 K1 t zs k1 n1 B2 K2 t zs k2 n2) (hR : Ref2 u K1 K2 t zs k1 n1 vs N) (hw : Below w.heap.size w u) {a : Option Addr} {l c : Nat} {I : List (List Int)} (hI : ArgR w a l c I) (hn : n1 < 4611686018427387904) :
    Calls Try.prog 11 #[.pointer (some ⟨B1, 0, none⟩), .agg vs, .slice a l c] u (TwoF w.heap.size G u B1 K1 B2 K2 t zs k2 n1 n2) := by
  refine (lfire7_any t tt F N u B1 K1 zs k1 n1 (.agg vs) a l c I w hD.one hR.ref hI hw hD.l1 hR.nl hR.n1 hn).mono ?_
  rintro e u' ⟨v', F', N', ks', n', rfl, h1, h2, h3, h4, h5, h6, h7, h8⟩
  have hK2 : K2 < u.heap.size := hD.two.lt
  obtain ⟨p, cp, iA, ci, oA, co, kA, ck, rfl, -⟩ := id h2
  exact ⟨_, ks', n', F', N', rfl, hD.fire1 h1 h6 h8, ⟨h2, h3, h4, fun hk => (h7 K2 hk).elim hR.n2 (fun e => absurd hK2 (by omega))⟩, h5, h8⟩
theorem duo_lift {L L' : Nat} {F G : Nat → Prop} {w : World} {B1 K1 t1 : Nat} {z1 k1 : List Int} {n1 B2 K2 t2 : Nat} {z2 k2 : List Int} {n2 : Nat} (h : Duo L F G w B1 K1 t1 z1 k1 n1 B2 K2 t2 z2 k2 n2) (hL : L' ≤ L) : Duo L' F G w B1 K1 t1 z1 k1 n1 B2 K2 t2 z2 k2 n2 := ⟨h.one, h.two, h.s1, h.s2, Nat.le_trans hL h.l1, Nat.le_trans hL h.l2⟩
theorem ref_start {w2 w3 w4 : World} {K1 K2 t : Nat} {zs ks : List Int} {vs : Array Value} (hR : IsRA w2.heap.size w3 t zs ks 0 (.agg vs)) (hb : Below w3.heap.size w3 w4) (h1 : K1 < w2.heap.size) (h2 : K2 < w2.heap.size) : Ref2 w4 K1 K2 t zs ks 0 vs (fun k => w2.heap.size ≤ k ∧ k < w3.heap.size) := by
  obtain ⟨p, cp, iA, ci, oA, co, kA, ck, hv, a1, a2, a3, a4, b1, b2, b3, b4, b5⟩ := hR
  have h0 : IsRN (fun k => w2.heap.size ≤ k ∧ k < w3.heap.size) w3 t zs ks 0 (.agg vs) := ⟨p, cp, iA, ci, oA, co, kA, ck, hv, a1, a2, a3, a4, b1, b2, b3, b4, b5⟩
  exact ⟨h0.keeps fun k hk => hb.block k hk.2, fun k hk => Nat.lt_of_lt_of_le hk.2 hb.size, fun hk => by have := hk.1; omega, fun hk => by have := hk.1; omega⟩
set_option maxRecDepth 100000 in
set_option maxHeartbeats 4000000 in
theorem actorsTwo_walk (t : Nat) (a : Option Addr) (len cap : Nat) (zs : List Int) (ax : Option Addr) (nx cx : Nat) (X : List (List Int)) (ay : Option Addr) (ny cy : Nat) (Y : List (List Int)) (w : World) (ht : t ≤ 255) (hA : Arg w a len cap zs) (hX : ArgR w ax nx cx X) (hY : ArgR w ay ny cy Y) :
    Calls Try.prog 4 #[.int .u8 (t : Int), .slice a len cap, .agg #[.slice ax nx cx, .slice ay ny cy]] w fun e w' => e = .returned (.bool true) ∧ Below w.heap.size w w' := by
  have AW : Hid (∀ V, Calls Try.prog 9 #[] V fun e w' => e = .returned (.bool true) ∧ Below V.heap.size V w') := fun V => awake7 V
  obtain ⟨f, hf⟩ : ∃ f, (ofS t zs).2.2 = f := ⟨_, rfl⟩
  have b0 := (Below.refl w.heap.size w).alloc (Nat.le_refl _) (.cells #[.slice ax nx cx, .slice ay ny cy] 45)
  have B0 := hidden6 b0
  have g0 := blkA_new 45 w #[.slice ax nx cx, .slice ay ny cy]
  have y0 := g0.cell (k := 0) rfl
  have y1 := g0.cell (k := 1) rfl
  clear b0 g0
  by_cases h0 : f = 0
  · subst h0
    have NW : Hid (∀ V, Below w.heap.size w V → Calls Try.prog 6 #[.int .u8 (t : Int), .slice a len cap] V (Fresh V t zs (keepS t zs))) := fun V hb => (new_any t a zs len cap V ht hA.size hA.fits hA.none (hA.lies.below hb)).mono fun _ _ h => fresh_of h hf rfl
    have RN : Hid (∀ V, Below w.heap.size w V → Calls Try.prog 7 #[.int .u8 (t : Int), .slice a len cap] V (RGood V t zs)) := fun V hb => rnew7_yes t a zs len cap V (hA.below hb) hf
    have tt := (of_good hf).1
    have HX := hidden6 hX
    have HY := hidden6 hY
    clear hA hf hX hY
    go_enter Try.func4, Try.ntmps4
    go_upto_region 1 with fail
    generalize w.alloc (.cells #[.slice ax nx cx, .slice ay ny cy] 45) = W0 at *
    go_wp2_with (first
      | (refine wpList_store6 _ rfl 31 (.tmp 19) (.tmp 87) rfl rfl size_actor w9.heap.size 31 _ _ _ _ _ _ _ _ _ _ _ _ _ _ _ _ _ _ _ _ rfl rfl (blkA_new 31 w9 #[.int .u8 0, .slice none 0 0, .slice none 0 0, .slice none 0 0, .slice none 0 0, .int .i64 0]) ?_; intro w10 hNb hUb; have bS := ((Below.refl w9.heap.size w9).alloc (Nat.le_refl _) (.cells #[.int .u8 0, .slice none 0 0, .slice none 0 0, .slice none 0 0, .slice none 0 0, .int .i64 0] 31)).trans (hUb.below (Nat.le_refl _) (by simp)); have sw10 : w9.heap.size < w10.heap.size := hNb.lt; have C10 := hidden6 hNb; have BB10 := hidden6 (BB9.out.trans (bS.mono BB9.out.size)); have D10 := hidden6 (D9.out.below bS); have S10 := hidden6 (S9.out.below bS); have T10 := hidden6 (T9.out.below bS); have E10 := hidden6 (E9.out.below bS); have u0 : w10.cell? ⟨w9.heap.size, 0, none⟩ = some (.int .u8 (t : Int)) := (hNb).cell rfl; have u1 : w10.cell? ⟨w9.heap.size, 1, none⟩ = some (.slice p3 zs.length cp3) := (hNb).cell rfl; have u2 : w10.cell? ⟨w9.heap.size, 2, none⟩ = some (.slice iA3 li3 ci3) := (hNb).cell rfl; have u3 : w10.cell? ⟨w9.heap.size, 3, none⟩ = some (.slice oA3 lo3 co3) := (hNb).cell rfl; have u4 : w10.cell? ⟨w9.heap.size, 4, none⟩ = some (.slice kA3 ks3.length ck3) := (hNb).cell rfl; have u5 : w10.cell? ⟨w9.heap.size, 5, none⟩ = some (.int .i64 (m3 : Int)) := (hNb).cell rfl; clear hNb hUb bS)
      | (refine wpList_store6 _ rfl 31 (.tmp 17) (.tmp 80) rfl rfl size_actor w7.heap.size 31 _ _ _ _ _ _ _ _ _ _ _ _ _ _ _ _ _ _ _ _ rfl rfl (blkA_new 31 w7 #[.int .u8 0, .slice none 0 0, .slice none 0 0, .slice none 0 0, .slice none 0 0, .int .i64 0]) ?_; intro w8 hNb hUb; have bS := ((Below.refl w7.heap.size w7).alloc (Nat.le_refl _) (.cells #[.int .u8 0, .slice none 0 0, .slice none 0 0, .slice none 0 0, .slice none 0 0, .int .i64 0] 31)).trans (hUb.below (Nat.le_refl _) (by simp)); have sw8 : w7.heap.size < w8.heap.size := hNb.lt; have E8 := hidden6 hNb; have BB8 := hidden6 (BB7.out.trans (bS.mono BB7.out.size)); have D8 := hidden6 (D7.out.below bS); have R8 := hidden6 (R7.out.below bS); have S8 := hidden6 (S7.out.below bS); have C8 := hidden6 (C7.out.below bS); have z0 : w8.cell? ⟨w5.heap.size, 0, none⟩ = some (.int .u8 (t : Int)) := (C8.out).cell rfl; have z1 : w8.cell? ⟨w5.heap.size, 1, none⟩ = some (.slice p1 zs.length cp1) := (C8.out).cell rfl; have z2 : w8.cell? ⟨w5.heap.size, 2, none⟩ = some (.slice iA1 li1 ci1) := (C8.out).cell rfl; have z3 : w8.cell? ⟨w5.heap.size, 3, none⟩ = some (.slice oA1 lo1 co1) := (C8.out).cell rfl; have z4 : w8.cell? ⟨w5.heap.size, 4, none⟩ = some (.slice kA1 ks1.length ck1) := (C8.out).cell rfl; have z5 : w8.cell? ⟨w5.heap.size, 5, none⟩ = some (.int .i64 (m1 : Int)) := (C8.out).cell rfl; clear hNb hUb bS)
      | (refine wpList_store6 _ rfl 31 (.tmp 15) (.tmp 73) rfl rfl size_actor w5.heap.size 31 _ _ _ _ _ _ _ _ _ _ _ _ _ _ _ _ _ _ _ _ rfl rfl (blkA_new 31 w5 #[.int .u8 0, .slice none 0 0, .slice none 0 0, .slice none 0 0, .slice none 0 0, .int .i64 0]) ?_; intro w6 hNb hUb; have bS := ((Below.refl w5.heap.size w5).alloc (Nat.le_refl _) (.cells #[.int .u8 0, .slice none 0 0, .slice none 0 0, .slice none 0 0, .slice none 0 0, .int .i64 0] 31)).trans (hUb.below (Nat.le_refl _) (by simp)); have sw6 : w5.heap.size < w6.heap.size := hNb.lt; have C6 := hidden6 hNb; have BB6 := hidden6 (BB5.out.trans (bS.mono BB5.out.size)); have D6 := hidden6 (D5.out.below bS); have A6 := hidden6 (A5.out.below bS); have R6 := hidden6 (R5.out.below bS); have Q6 := hidden6 (Q5.out.below bS); have y0 : w6.cell? ⟨w3.heap.size, 0, none⟩ = some (.int .u8 (t : Int)) := (Q6.out).cell rfl; have y1 : w6.cell? ⟨w3.heap.size, 1, none⟩ = some (.slice p0 zs.length cp0) := (Q6.out).cell rfl; have y2 : w6.cell? ⟨w3.heap.size, 2, none⟩ = some (.slice iA0 (insS t zs).length ci0) := (Q6.out).cell rfl; have y3 : w6.cell? ⟨w3.heap.size, 3, none⟩ = some (.slice oA0 (outsS t zs).length co0) := (Q6.out).cell rfl; have y4 : w6.cell? ⟨w3.heap.size, 4, none⟩ = some (.slice kA0 (keepS t zs).length ck0) := (Q6.out).cell rfl; have y5 : w6.cell? ⟨w3.heap.size, 5, none⟩ = some (.int .i64 0) := (Q6.out).cell rfl; clear hNb hUb bS)
      | (refine wpList_store6 _ rfl 31 (.tmp 13) (.tmp 41) rfl rfl size_actor w3.heap.size 31 _ _ _ _ _ _ _ _ _ _ _ _ _ _ _ _ _ _ _ _ rfl rfl (blkA_new 31 w3 #[.int .u8 0, .slice none 0 0, .slice none 0 0, .slice none 0 0, .slice none 0 0, .int .i64 0]) ?_; intro w4 hNb hUb; have bS := ((Below.refl w3.heap.size w3).alloc (Nat.le_refl _) (.cells #[.int .u8 0, .slice none 0 0, .slice none 0 0, .slice none 0 0, .slice none 0 0, .int .i64 0] 31)).trans (hUb.below (Nat.le_refl _) (by simp)); have sw4 : w3.heap.size < w4.heap.size := hNb.lt; have Q4 := hidden6 hNb; have BB4 := hidden6 (BB3.out.trans (bS.mono BB3.out.size)); have D4 := hidden6 ((D2.out.below B3.out).below bS); have A4 := hidden6 (ref_start (vs := #[.int .u8 (t : Int), .slice p0 zs.length cp0, .slice iA0 (insS t zs).length ci0, .slice oA0 (outsS t zs).length co0, .slice kA0 (keepS t zs).length ck0, .int .i64 0]) HRA.out bS D2.out.one.lt D2.out.two.lt); have x0 : w4.cell? ⟨w3.heap.size, 0, none⟩ = some (.int .u8 (t : Int)) := (hNb).cell rfl; have x1 : w4.cell? ⟨w3.heap.size, 1, none⟩ = some (.slice p0 zs.length cp0) := (hNb).cell rfl; have x2 : w4.cell? ⟨w3.heap.size, 2, none⟩ = some (.slice iA0 (insS t zs).length ci0) := (hNb).cell rfl; have x3 : w4.cell? ⟨w3.heap.size, 3, none⟩ = some (.slice oA0 (outsS t zs).length co0) := (hNb).cell rfl; have x4 : w4.cell? ⟨w3.heap.size, 4, none⟩ = some (.slice kA0 (keepS t zs).length ck0) := (hNb).cell rfl; have x5 : w4.cell? ⟨w3.heap.size, 5, none⟩ = some (.int .i64 0) := (hNb).cell rfl; clear hNb hUb bS)
      | (go_at_call 11; (with_reducible refine (two_fire tt D8.out R8.out BB8.out HY.out (by omega)).mono ?_); rintro e w9 ⟨vs3, ks3, m3, F3, N3, rfl, hD9, hT9, hm3, b9⟩; obtain ⟨p3, cp3, iA3, li3, ci3, oA3, lo3, co3, kA3, ck3, rfl, -⟩ := rn_agg hT9.ref; have D9 := hidden6 hD9; have T9 := hidden6 hT9; have S9 := hidden6 (S8.out.swap.but b9).swap; have E9 := hidden6 (E8.out.but b9 (by have := D4.out.one.lt; omega)); have BB9 := hidden6 (but_below b9 BB8.out D8.out.l1); clear hD9 hT9 b9 z0 z1 z2 z3 z4 z5)
      | (go_at_call 11; (with_reducible refine (two_fire tt D6.out.swap A6.out.swap BB6.out HY.out (by omega)).mono ?_); rintro e w7 ⟨vs2, ks2, m2, F2, N2, rfl, hD7, hS7, hm2, b7⟩; obtain ⟨p2, cp2, iA2, li2, ci2, oA2, lo2, co2, kA2, ck2, rfl, -⟩ := rn_agg hS7.ref; have D7 := hidden6 hD7.swap; have S7 := hidden6 hS7; have R7 := hidden6 (R6.out.swap.but b7).swap; have s67 := b7.size; have C7 := hidden6 (C6.out.but b7 (by have := D4.out.two.lt; omega)); have BB7 := hidden6 (but_below b7 BB6.out D6.out.l2); clear hD7 hS7 b7 y0 y1 y2 y3 y4 y5)
      | (go_at_call 11; (with_reducible refine (two_fire tt D4.out A4.out BB4.out HX.out (by omega)).mono ?_); rintro e w5 ⟨vs1, ks1, m1, F1, N1, rfl, hD5, hR5, hm1, b5⟩; obtain ⟨p1, cp1, iA1, li1, ci1, oA1, lo1, co1, kA1, ck1, rfl, -⟩ := rn_agg hR5.ref; have D5 := hidden6 hD5; have R5 := hidden6 hR5; have A5 := hidden6 (A4.out.but b5); have Q5 := hidden6 (Q4.out.but b5 (by have := D2.out.one.lt; have := B3.out.size; omega)); have s45 := b5.size; have BB5 := hidden6 (but_below b5 BB4.out D4.out.l1); clear hD5 hR5 b5 x0 x1 x2 x3 x4 x5)
      | (go_at_call 9; (with_reducible refine (AW.out w12).mono ?_); rintro e w13 ⟨rfl, b13⟩)
      | (go_at_call 12; (with_reducible refine (lask7_any t tt _ _ w11 B2 K2 zs ks2 m2 _ 4 (D10.out.two.below b11) (S10.out.below b11).ref).mono ?_); rintro e w12 ⟨rfl, b12⟩)
      | (go_at_call 12; (with_reducible refine (lask7_any t tt _ _ w10 B1 K1 zs ks3 m3 _ 4 D10.out.one T10.out.ref).mono ?_); rintro e w11 ⟨rfl, b11⟩; clear u0 u1 u2 u3 u4 u5; have x0 : w11.cell? ⟨w7.heap.size, 0, none⟩ = some (.int .u8 (t : Int)) := (E10.out.below b11).cell rfl; have x1 : w11.cell? ⟨w7.heap.size, 1, none⟩ = some (.slice p2 zs.length cp2) := (E10.out.below b11).cell rfl; have x2 : w11.cell? ⟨w7.heap.size, 2, none⟩ = some (.slice iA2 li2 ci2) := (E10.out.below b11).cell rfl; have x3 : w11.cell? ⟨w7.heap.size, 3, none⟩ = some (.slice oA2 lo2 co2) := (E10.out.below b11).cell rfl; have x4 : w11.cell? ⟨w7.heap.size, 4, none⟩ = some (.slice kA2 ks2.length ck2) := (E10.out.below b11).cell rfl; have x5 : w11.cell? ⟨w7.heap.size, 5, none⟩ = some (.int .i64 (m2 : Int)) := (E10.out.below b11).cell rfl)
      | (go_at_call 7; (with_reducible refine (RN.out w2 BB2.out).mono ?_); rintro e w3 ⟨rv, rfl, hRA, b3⟩; have HRA := hidden6 hRA; obtain ⟨p0, cp0, iA0, ci0, oA0, co0, kA0, ck0, rfl, -⟩ := hRA; unfold RA; have B3 := hidden6 b3; have BB3 := hidden6 (BB2.out.trans (b3.mono BB2.out.size)); clear b3)
      | (go_at_call 6; (with_reducible refine (NW.out w1 BB1.out).mono ?_); rintro e w2 ⟨B2, K2, G, rfl, h2, hG, b2⟩; have BB2 := hidden6 (BB1.out.trans (b2.mono BB1.out.size)); have D2 := hidden6 (duo_lift (duo_start h1 hF h2 hG b2) B0.out.size); clear h1 hF h2 hG b2)
      | (go_at_call 6; (with_reducible refine (NW.out W0 B0.out).mono ?_); rintro e w1 ⟨B1, K1, F, rfl, h1, hF, b1⟩; have BB1 := hidden6 (B0.out.trans (b1.mono B0.out.size)); clear b1 y0 y1))
    go_ret
    have p1 := BB10.out.trans (b11.mono BB10.out.size)
    have p2 := p1.trans (b12.mono p1.size)
    exact ⟨rfl, p2.trans (b13.mono p2.size)⟩
  · have NW : Hid (∀ V, Below w.heap.size w V → Calls Try.prog 6 #[.int .u8 (t : Int), .slice a len cap] V (Refused V f)) := fun V hb => (new_any t a zs len cap V ht hA.size hA.fits hA.none (hA.lies.below hb)).mono fun _ _ h => refused_of h hf h0
    have RN : Hid (∀ V, Below w.heap.size w V → Calls Try.prog 7 #[.int .u8 (t : Int), .slice a len cap] V (RBad V f)) := fun V hb => rnew7_no t a zs len cap V ht (hA.below hb) hf h0
    have q1 : (f != f) = false := by simp
    have q2 : (f == 0) = false := by simpa using h0
    have q3 : (f != 0) = true := by simpa using h0
    clear hA hf hX hY
    go_enter Try.func4, Try.ntmps4
    go_upto_region 1 with fail
    generalize w.alloc (.cells #[.slice ax nx cx, .slice ay ny cy] 45) = W0 at *
    go_wp2_with (first
      | (refine wpList_store6 _ rfl 31 (.tmp 13) (.tmp 41) rfl rfl size_actor w3.heap.size 31 _ _ _ _ _ _ _ _ _ _ _ _ _ _ _ _ _ _ _ _ rfl rfl (blkA_new 31 w3 #[.int .u8 0, .slice none 0 0, .slice none 0 0, .slice none 0 0, .slice none 0 0, .int .i64 0]) ?_; intro w4 hNb hUb; have bS := ((Below.refl w3.heap.size w3).alloc (Nat.le_refl _) (.cells #[.int .u8 0, .slice none 0 0, .slice none 0 0, .slice none 0 0, .slice none 0 0, .int .i64 0] 31)).trans (hUb.below (Nat.le_refl _) (by simp)); have sw4 : w3.heap.size < w4.heap.size := hNb.lt; have BB4 := hidden6 (BB3.out.trans (bS.mono BB3.out.size)); clear hNb hUb bS)
      | (go_at_call 9; (with_reducible refine (AW.out _).mono ?_); rintro e w6 ⟨rfl, b6⟩)
      | (go_at_call 7; (with_reducible refine (RN.out w2 BB2.out).mono ?_); rintro e w3 ⟨rfl, b3⟩; have BB3 := hidden6 (BB2.out.trans (b3.mono BB2.out.size)); clear b3)
      | (go_at_call 6; (with_reducible refine (NW.out w1 BB1.out).mono ?_); rintro e w2 ⟨rfl, b2⟩; have BB2 := hidden6 (BB1.out.trans (b2.mono BB1.out.size)); clear b2)
      | (go_at_call 6; (with_reducible refine (NW.out W0 B0.out).mono ?_); rintro e w1 ⟨rfl, b1⟩; have BB1 := hidden6 (B0.out.trans (b1.mono B0.out.size)); clear b1 y0 y1))
    go_ret
    exact ⟨rfl, BB4.out.trans (b6.mono BB4.out.size)⟩
end Go.Proofs.Ytehgkgbijhobdaa

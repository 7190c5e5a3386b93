/- Texts of one chain, laid one behind the other. -/
import Derived.Test.YtehgkgbijhobdaaPartActorsPlays18
import Derived.Test.YtehgkgbijhobdaaPartActorsPlays14
namespace Go.Proofs.Ytehgkgbijhobdaa
open Go.ChangeShapes Go.WideShapes Go.ChangeAt Go.RowKit
/-- An actor and the document's beside it, the latter in a box. -/
structure Play (L : Nat) (wr : World) (B K Q t : Nat) (zs ks : List Int) (n : Nat) (vs : Array Value) (F N : Nat → Prop) : Prop where
  bod : Bod F wr B K t zs ks n
  ref : IsRN N wr t zs ks n (.agg vs)
  box : BlkA 31 Q wr vs
  nl : ∀ k, N k → k < wr.heap.size
  nk : ¬ N K
  nq : ¬ N Q
  fq : ¬ F Q
  lk : L ≤ K
  lq : L ≤ Q
theorem Play.keeps {L : Nat} {w w' : World} {B K Q t : Nat} {zs ks : List Int} {n : Nat} {vs : Array Value} {F N : Nat → Prop} (h : Play L w B K Q t zs ks n vs F N) (hF : ∀ k, F k → w'.heap[k]? = w.heap[k]?) (hN : ∀ k, N k → w'.heap[k]? = w.heap[k]?) (hQ : w'.heap[Q]? = w.heap[Q]?) (hs : w.heap.size ≤ w'.heap.size) : Play L w' B K Q t zs ks n vs F N :=
  ⟨h.bod.keeps hF, h.ref.keeps hN, h.box.keep hQ, fun k hk => Nat.lt_of_lt_of_le (h.nl k hk) hs, h.nk, h.nq, h.fq, h.lk, h.lq⟩
theorem Play.below {L : Nat} {w w' : World} {B K Q t : Nat} {zs ks : List Int} {n : Nat} {vs : Array Value} {F N : Nat → Prop} (h : Play L w B K Q t zs ks n vs F N) (hb : Below w.heap.size w w') : Play L w' B K Q t zs ks n vs F N :=
  h.keeps (fun k hk => hb.block k (h.bod.kin.mem.2 k hk)) (fun k hk => hb.block k (h.nl k hk)) (hb.block Q h.box.lt) hb.size
/-- .. once it has fired, the box not yet filled anew. -/
def Shot (L : Nat) (B K Q t : Nat) (zs : List Int) (n : Nat) (u : World) (vs : Array Value) : Prop :=
  ∃ F N ks n' ov, n' ≤ n + 1 ∧ Bod F u B K t zs ks n' ∧ IsRN N u t zs ks n' (.agg vs) ∧ BlkA 31 Q u ov ∧ ov.size = 6 ∧ (∀ k, N k → k < u.heap.size) ∧ ¬ N K ∧ ¬ N Q ∧ ¬ F Q ∧ L ≤ K ∧ L ≤ Q
def After (L : Nat) (B K Q t : Nat) (zs : List Int) (n : Nat) (u : World) : Prop := ∃ F N ks n' vs, n' ≤ n + 1 ∧ Play L u B K Q t zs ks n' vs F N
theorem Shot.below {L : Nat} {B K Q t : Nat} {zs : List Int} {n : Nat} {u u' : World} {vs : Array Value} (h : Shot L B K Q t zs n u vs) (hb : Below u.heap.size u u') : Shot L B K Q t zs n u' vs := by
  obtain ⟨F, N, ks, n', ov, h1, h2, h3, h4, h5, h6, h7⟩ := h
  exact ⟨F, N, ks, n', ov, h1, h2.below hb, h3.keeps fun k hk => hb.block k (h6 k hk), h4.below hb, h5, fun k hk => Nat.lt_of_lt_of_le (h6 k hk) hb.size, h7⟩
theorem After.below {L : Nat} {B K Q t : Nat} {zs : List Int} {n : Nat} {u u' : World} (h : After L B K Q t zs n u) (hb : Below u.heap.size u u') : After L B K Q t zs n u' := by
  obtain ⟨F, N, ks, n', vs, h1, h2⟩ := h
  exact ⟨F, N, ks, n', vs, h1, h2.below hb⟩
theorem agg_inj {a b : Array Value} (h : Value.agg a = .agg b) : a = b := by injection h
theorem rn_agg {N : Nat → Prop} {w : World} {t : Nat} {zs ks : List Int} {n : Nat} {vs : Array Value} (h : IsRN N w t zs ks n (.agg vs)) : ∃ p cp iA li ci oA lo co kA ck, vs = #[.int .u8 (t : Int), .slice p zs.length cp, .slice iA li ci, .slice oA lo co, .slice kA ks.length ck, .int .i64 (n : Int)] ∧ (insS t zs).length = li ∧ (outsS t zs).length = lo := by
  obtain ⟨p, cp, iA, ci, oA, co, kA, ck, hv, -⟩ := h
  exact ⟨p, cp, iA, _, ci, oA, _, co, kA, ck, agg_inj hv, rfl, rfl⟩
/-- The law's firing, out of a box. -/
theorem play_fire {w u : World} {B K Q t : Nat} {zs ks : List Int} {n : Nat} {vs : Array Value} {F N : Nat → Prop} (tt : 1 ≤ t ∧ t ≤ 11) (h : Play w.heap.size u B K Q t zs ks n vs F N) (hw : Below w.heap.size w u) {a : Option Addr} {l c : Nat} {I : List (List Int)} (hI : ArgR w a l c I) (hn : n < 4611686018427387904) (hvs : vs.size = 6) :
    Calls Try.prog 11 #[.pointer (some ⟨B, 0, none⟩), .agg vs, .slice a l c] u fun e u' => ∃ vs', e = .returned (.tuple #[.agg vs', .bool true]) ∧ Shot w.heap.size B K Q t zs n u' vs' ∧ Below w.heap.size u u' := by
  refine (lfire7_any t tt F N u B K zs ks n (.agg vs) a l c I w h.bod h.ref hI hw h.lk h.nl h.nk hn).mono ?_
  rintro e u' ⟨v', F', N', ks', n', rfl, h1, h2, h3, h4, h5, h6, h7, h8⟩
  have hQ : u'.heap[Q]? = u.heap[Q]? := h8.block Q h.box.lt (fun e => h.fq (e ▸ h.bod.kin.mem.1))
  obtain ⟨p, cp, iA, ci, oA, co, kA, ck, rfl, -⟩ := id h2
  exact ⟨_, rfl, ⟨F', N', ks', n', vs, h5, h1, h2, h.box.keep hQ, hvs, h3, h4, fun hk => (h7 Q hk).elim h.nq (fun e => absurd h.box.lt (by omega)), fun hk => (h6 Q hk).elim h.fq (fun e => absurd h.box.lt (by omega)), h.lk, h.lq⟩, h8.below h.lk hw.size⟩
theorem shot_fill {L : Nat} {B K Q t : Nat} {zs : List Int} {n : Nat} {u u' : World} {vs : Array Value} (h : Shot L B K Q t zs n u vs) (hb : But Q u u') (hB : BlkA 31 Q u' vs) : After L B K Q t zs n u' := by
  obtain ⟨F, N, ks, n', ov, h1, h2, h3, h4, h5, h6, h7, h8, h9, h10, h11⟩ := h
  exact ⟨F, N, ks, n', vs, h1, h2.keeps fun k hk => hb.block k (h2.kin.mem.2 k hk) (fun e => h9 (e ▸ hk)), h3.keeps fun k hk => hb.block k (h6 k hk) (fun e => h8 (e ▸ hk)), hB, fun k hk => Nat.lt_of_lt_of_le (h6 k hk) hb.size, h7, h8, h9, h10, h11⟩
theorem six_arr {ov : Array Value} (h : ov.size = 6) : ∃ c0 c1 c2 c3 c4 c5, ov = #[c0, c1, c2, c3, c4, c5] := by
  obtain ⟨l⟩ := ov
  match l, h with
  | [c0, c1, c2, c3, c4, c5], _ => exact ⟨c0, c1, c2, c3, c4, c5, rfl⟩
/-- A row lent, told apart: nothing else turns. -/
theorem apart_own {B : Nat} {w : World} {g c1 : Nat} {P : List Int} (ha : CapR B w (some ⟨g, 0, none⟩) c1 P) (hB : B ≤ w.heap.size) (h1 : P.length * 8 ≤ 140737488351232) :
    Calls Try.prog 10 #[.slice (some ⟨w.heap.size, 0, none⟩) 1 1] (w.alloc (.cells #[.slice (some ⟨g, 0, none⟩) P.length c1] 22)) fun e w' => e = .returned (.bool true) ∧ Below B w w' ∧ ∀ k, k < w.heap.size → k ≠ g → w'.heap[k]? = w.heap[k]? :=
  (apartX (X := fun k => k = g) ⟨_, _, tabG_one ha hB, fun j x hj hx => by cases hx; rfl⟩ (by rw [World.size_alloc]; omega) (by show 1 ≤ _; omega) (fun j hj => by match j, hj with | 0, _ => exact h1)).mono fun _ w' ⟨e1, e2, e3⟩ => ⟨e1, ((Below.refl B w).alloc hB _).trans e2, fun k hk hg => (e3 k (by rw [World.size_alloc]; omega) hg).trans (Below.heap_alloc w _ k hk)⟩
/-- How the two start. -/
theorem play_start {w w1 w2 w3 w4 w6 : World} {B K g t : Nat} {zs ks : List Int} {vs : Array Value} {F : Nat → Prop} (hb1 : Below w.heap.size w w1) (hg : g < w1.heap.size) (hb2 : Below w1.heap.size w1 w2) (h2 : Bod F w2 B K t zs ks 0) (hF : ∀ k, F k → w1.heap.size ≤ k) (hb3 : Below w2.heap.size w2 w3) (hR : IsRA w2.heap.size w3 t zs ks 0 (.agg vs))
    (hbx : BlkA 31 w3.heap.size w4 vs) (hb4 : ∀ k, k < w3.heap.size → w4.heap[k]? = w3.heap[k]?) (hs4 : w3.heap.size ≤ w4.heap.size) (hk : ∀ k, k < w4.heap.size → k ≠ g → w6.heap[k]? = w4.heap[k]?) (hs6 : w4.heap.size ≤ w6.heap.size) :
    Play w.heap.size w6 B K w3.heap.size t zs ks 0 vs F (fun k => w2.heap.size ≤ k ∧ k < w3.heap.size) := by
  have s1 := hb1.size
  have s2 := hb2.size
  have s3 := hb3.size
  have m2 := h2.kin.mem
  have key : ∀ k, k < w3.heap.size → k ≠ g → w6.heap[k]? = w3.heap[k]? := fun k h1 h3 => (hk k (by omega) h3).trans (hb4 k h1)
  obtain ⟨p, cp, iA, ci, oA, co, kA, ck, hv, a1, a2, a3, a4, b1, b2, b3, b4, b5⟩ := hR
  have hK1 := hF K m2.1
  have hK2 := m2.2 K m2.1
  refine ⟨(h2.below hb3).keeps fun k hF' => ?_, ?_, hbx.keep (hk _ hbx.lt (by omega)), fun k hk => by have := hk.2; omega, fun hk => by have := hk.1; omega, fun hk => by have := hk.2; omega, fun hk => by have := m2.2 _ hk; omega, by omega, by omega⟩
  · have := hF k hF'
    have := m2.2 k hF'
    exact key k (by omega) (by omega)
  · have h0 : IsRN (fun k => w2.heap.size ≤ k ∧ k < w3.heap.size) w3 t zs ks 0 (.agg vs) := ⟨p, cp, iA, ci, oA, co, kA, ck, hv, a1, a2, a3, a4, b1, b2, b3, b4, b5⟩
    exact h0.keeps fun k hk => key k hk.2 (by have := hk.1; omega)
set_option maxRecDepth 100000 in
set_option maxHeartbeats 4000000 in
theorem actorsPlays_walk (t : Nat) (a : Option Addr) (len cap : Nat) (zs : List Int) (s : Option Addr) (m scap : Nat) (S : List OpL) (w : World) (ht : t ≤ 255) (hA : Arg w a len cap zs) (hS : ArgO w s m S) :
    Calls Try.prog 3 #[.int .u8 (t : Int), .slice a len cap, .slice s m scap] w fun e w' => e = .returned (.bool true) ∧ Below w.heap.size w w' := by
  have hsz := hA.size
  subst hsz
  have AW : Hid (∀ V, Calls Try.prog 9 #[] V fun e w' => e = .returned (.bool true) ∧ Below V.heap.size V w') := fun V => awake7 V
  have LE := hidden6 (lent_full a zs zs.length cap w hA)
  have HA := hidden6 hA
  have HR8 := hA.reach
  have KP : Hid (∀ V g, Below w.heap.size w V → Lend w.heap.size V g zs.length zs → Calls Try.prog 8 #[.slice (some ⟨g, 0, none⟩) zs.length (zs.length + 4), .slice a zs.length cap] V fun e w' => e = .returned (.bool true) ∧ Below V.heap.size V w') := fun V g hb h => (kept_any g a zs zs.length cap w.heap.size V h (hA.below hb)).mono fun e w' ⟨n, h1, h2⟩ => ⟨h1, by rw [h2]; exact bdrew (Below.refl _ _) n⟩
  obtain ⟨f, hf⟩ : ∃ f, (ofS t zs).2.2 = f := ⟨_, rfl⟩
  by_cases h0 : f = 0
  · subst h0
    have NW : Hid (∀ V g, At V (some ⟨g, 0, none⟩) zs → Calls Try.prog 6 #[.int .u8 (t : Int), .slice (some ⟨g, 0, none⟩) zs.length (zs.length + 4)] V (Fresh V t zs (keepS t zs))) := fun V g hat => (new_any t (some ⟨g, 0, none⟩) zs zs.length (zs.length + 4) V ht rfl hA.fits (fun h => by cases h) hat).mono fun _ _ h => fresh_of h hf rfl
    have RN : Hid (∀ V, Below w.heap.size w V → Calls Try.prog 7 #[.int .u8 (t : Int), .slice a zs.length cap] V (RGood V t zs)) := fun V hb => rnew7_yes t a zs zs.length cap V (hA.below hb) hf
    have tt := (of_good hf).1
    have HS := hidden6 hS
    have hm := hS.reach
    have mI : (m : Int) ≤ 4398046511104 := by omega
    clear hA hS hf
    go_enter Try.func3, Try.ntmps3
    go_wp2_with (first
      | (refine wpList_store6 _ rfl 31 (.tmp 10) (.tmp 27) rfl rfl size_actor w3.heap.size 31 _ _ _ _ _ _ _ _ _ _ _ _ _ _ _ _ _ _ _ _ rfl rfl (blkA_new 31 w3 #[.int .u8 0, .slice none 0 0, .slice none 0 0, .slice none 0 0, .slice none 0 0, .int .i64 0]) ?_; intro w4 hN4 hU4; have NQ := hidden6 hN4; have s4 : (w3.alloc (.cells #[.int .u8 0, .slice none 0 0, .slice none 0 0, .slice none 0 0, .slice none 0 0, .int .i64 0] 31)).heap.size ≤ w4.heap.size := hU4.size; rw [World.size_alloc] at s4; have b4 := ((Below.refl w3.heap.size w3).alloc (Nat.le_refl _) (.cells #[.int .u8 0, .slice none 0 0, .slice none 0 0, .slice none 0 0, .slice none 0 0, .int .i64 0] 31)).trans (hU4.below (Nat.le_refl _) (by simp)); have B4 := hidden6 b4; have BB4 := hidden6 (BB3.out.trans (b4.mono BB3.out.size)); have LD4 := hidden6 (LD3.out.below b4); have CP4 := hidden6 (CP3.out.later b4); clear hN4 hU4 b4)
      | (go_at_call 10; (with_reducible refine (apart_own CP5.out BB5.out.size HR8).mono ?_); rintro e w6 ⟨rfl, b6, k6⟩; have B6 := hidden6 b6; have K6 := hidden6 k6; clear b6 k6)
      | (go_at_call 8; (with_reducible refine (KP.out w4 g BB4.out LD4.out).mono ?_); rintro e w5 ⟨rfl, b5⟩; have B5 := hidden6 b5; have BB5 := hidden6 (BB4.out.trans (b5.mono BB4.out.size)); have CP5 := hidden6 (CP4.out.later b5); clear b5)
      | (go_at_call 7; (with_reducible refine (RN.out w2 BB2.out).mono ?_); rintro e w3 ⟨rv, rfl, hRA, b3⟩; have HRA := hidden6 hRA; obtain ⟨p, cp, iA, ci, oA, co, kA, ck, rfl, -⟩ := hRA; unfold RA; have B3 := hidden6 b3; have BB3 := hidden6 (BB2.out.trans (b3.mono BB2.out.size)); have LD3 := hidden6 (LD2.out.below b3); have CP3 := hidden6 (CP2.out.later b3); clear b3)
      | (go_at_call 6; (with_reducible refine (NW.out w1 g LD1.out.at).mono ?_); rintro e w2 ⟨B, K, F, rfl, h2, hF, b2⟩; have BD2 := hidden6 h2; have HF := hidden6 hF; have B2 := hidden6 b2; have BB2 := hidden6 (BB1.out.trans (b2.mono BB1.out.size)); have LD2 := hidden6 (LD1.out.below b2); have CP2 := hidden6 (CP1.out.later b2); clear h2 hF b2)
      | (go_at_call 5; (with_reducible refine LE.out.mono ?_); rintro e w1 ⟨g, rfl, hL1, b1, hw1⟩; have LD1 := hidden6 hL1; have BB1 := hidden6 b1; have CP1 : Hid (CapR w.heap.size w1 (some ⟨g, 0, none⟩) (zs.length + 4) zs) := hw1; clear hL1 b1 hw1))
    have PL := hidden6 (play_start BB1.out (CP1.out.lt _ rfl).2 B2.out BD2.out HF.out B3.out HRA.out NQ.out (fun k hk => B4.out.block k hk) (by omega) (fun k hk hg => (K6.out k (Nat.lt_of_lt_of_le hk B5.out.size) hg).trans (B5.out.block k hk)) (Nat.le_trans B5.out.size B6.out.size))
    have BB6 := hidden6 (BB5.out.trans B6.out)
    clear BB1 LD1 CP1 B2 BB2 LD2 CP2 BD2 HF B3 BB3 LD3 CP3 HRA B4 BB4 LD4 CP4 NQ B5 BB5 CP5 B6 K6 NW RN LE KP
    generalize w3.heap.size = Q at *
    go_loopg [13] m (fun gk v wr => ∃ (k n : Nat) (ks : List Int) (F N : Nat → Prop) (vs : Array Value), k ≤ m ∧ gk = m - k ∧ v = .int .i64 (k : Int) ∧ n ≤ k ∧ Play w.heap.size wr B K Q t zs ks n vs F N ∧ Below w.heap.size w wr)
    case atStart => exact ⟨0, 0, _, _, _, _, Nat.zero_le _, rfl, rfl, Nat.le_refl _, PL.out, BB6.out⟩
    case round =>
      clear PL BB6
      obtain ⟨k, n, ks, F, N, vs, hk, rfl, rfl, hnk, hP, hB⟩ := hrel
      obtain ⟨p, cp, iA, li, ci, oA, lo, co, kA, ck, rfl, -⟩ := rn_agg hP.ref
      have HP := hidden6 hP
      have HB := hidden6 hB
      clear hP hB
      by_cases hlt : k < m
      · have hki : (k : Int) < (m : Int) := by omega
        have hz := HS.out.size
        rcases (HS.out.below HB.out).lies with h0 | ⟨b, off, rfl, hc⟩
        · rw [h0] at hz; simp at hz; omega
        obtain ⟨cA, x, l, c, cI, -⟩ := hc k (by omega)
        have HI : Hid (ArgR w x l c (nthO S k).2) := by
          rcases HS.out.lies with h0 | ⟨b', off', e', hc'⟩
          · rw [h0] at hz; simp at hz; omega
          obtain ⟨_, x', l', c', cI', hI'⟩ := hc' k (by omega)
          cases e'
          have e2 := HB.out.cell (p := ⟨b, off + k * 2 + 1, none⟩) (block_lt_of_cell cI')
          rw [cI, cI'] at e2
          cases e2
          exact hI'
        have CA' := hidden6 cA
        have CI := hidden6 cI
        generalize (nthO S k).2 = I at HI
        generalize (nthO S k).1 = q at CA' cA
        have hn62 : n < 4611686018427387904 := by omega
        clear hc hz cI
        by_cases hq : q = 0
        · subst hq
          go_upto_region 15 with fail
          refine wp_region_gen [7, 11] (fun d i u z => match i with
              | 0 => z = .pointer (some ⟨B, 0, none⟩)
              | 1 => z = .agg #[.int .u8 (t : Int), .slice p zs.length cp, .slice iA li ci, .slice oA lo co, .slice kA ks.length ck, .int .i64 (n : Int)]
              | 2 => z = .slice (some ⟨b, off, none⟩) m scap
              | 3 => z = .int .i64 (k : Int)
              | 4 => z = .pointer (some ⟨b, off + k * 2, none⟩)
              | 5 => z = .pointer (some ⟨b, off + k * 2 + 1, none⟩)
              | 6 => z = .slice x l c
              | 7 => (d 7 = true ∧ ∃ vs', z = .tuple #[.agg vs', .bool true] ∧ (d 11 = false → Shot w.heap.size B K Q t zs n u vs'))
              | 8 => (d 7 = true ∧ ∃ vs', z = .tuple #[.agg vs', .bool true] ∧ (d 11 = false → Shot w.heap.size B K Q t zs n u vs'))
              | 9 => (d 7 = true ∧ ∃ vs', z = .agg vs' ∧ (d 11 = false → Shot w.heap.size B K Q t zs n u vs'))
              | 10 => z = .bool true
              | 11 => True
              | 12 => z = .bool true
              | _ => True) (fun d u => (d 7 = false → Below wr.heap.size wr u) ∧ (d 11 = true → After w.heap.size B K Q t zs n u) ∧ Below w.heap.size w u) (by kernel_rfl) (by kernel_rfl) (by kernel_rfl) ?_ ?_ ?_ ?_ ?_ ?_ (by kernel_rfl)
          · intro d i w v w' h hb
            match i, h with
            | 0, h => exact h
            | 1, h => exact h
            | 2, h => exact h
            | 3, h => exact h
            | 4, h => exact h
            | 5, h => exact h
            | 6, h => exact h
            | 7, h => exact ⟨h.1, by obtain ⟨vs', e, hs⟩ := h.2; exact ⟨vs', e, fun q => (hs q).below hb⟩⟩
            | 8, h => exact ⟨h.1, by obtain ⟨vs', e, hs⟩ := h.2; exact ⟨vs', e, fun q => (hs q).below hb⟩⟩
            | 9, h => exact ⟨h.1, by obtain ⟨vs', e, hs⟩ := h.2; exact ⟨vs', e, fun q => (hs q).below hb⟩⟩
            | 10, h => exact h
            | 11, h => exact h
            | 12, h => exact h
            | _ + 13, _ => trivial
          · intro d u u' h hb
            exact ⟨fun e => (h.1 e).trans (hb.mono (h.1 e).size), fun e => (h.2.1 e).below hb, h.2.2.trans (hb.mono h.2.2.size)⟩
          · exact ⟨fun _ => Below.refl _ _, fun e => absurd e (by decide), HB.out⟩
          · intro d i o ρ w' hm ho hf hg hC hcs hfs hfr hdep
            match i, hm, ho, hf, hg, hfr, hdep with
            | 0, _, ho, hf, hg, hfr, hdep =>
              simp only [gTA, gCZ, gSI] at ho
              subst ho
              refine ⟨fun _ => ?_, fun hw => absurd (show true = false from hw) (by decide)⟩
              have ts : ρ (.tmp 8) = .pointer (some ⟨B, 0, none⟩) := hfr 8 (by kernel_rfl)
              simp [go_sem, ts]
              exact ⟨Below.refl _ _, rfl⟩
            | 1, _, ho, hf, hg, hfr, hdep =>
              simp only [gTA, gCZ, gCS, gSI] at ho
              subst ho
              refine ⟨fun _ => ?_, fun hw => absurd (show true = false from hw) (by decide)⟩
              have tq : ρ (.tmp 10) = .pointer (some ⟨Q, 0, none⟩) := hfr 10 (by kernel_rfl)
              have bx := HP.out.box.below (hC.1 (hf 7 (by decide) (by kernel_rfl)))
              have c0 := bx.cell (k := 0) rfl
              have c1 := bx.cell (k := 1) rfl
              have c2 := bx.cell (k := 2) rfl
              have c3 := bx.cell (k := 3) rfl
              have c4 := bx.cell (k := 4) rfl
              have c5 := bx.cell (k := 5) rfl
              simp [go_sem, tq, c0, c1, c2, c3, c4, c5]
              exact ⟨Below.refl _ _, rfl⟩
            | 2, _, ho, hf, hg, hfr, hdep =>
              simp only [gTA, gCZ, gCS, gSI] at ho
              subst ho
              refine ⟨fun _ => ?_, fun hw => absurd (show true = false from hw) (by decide)⟩
              have ts : ρ (.tmp 2) = .slice (some ⟨b, off, none⟩) m scap := hfr 2 (by kernel_rfl)
              simp [go_sem, ts]
              exact ⟨Below.refl _ _, rfl⟩
            | 3, _, ho, hf, hg, hfr, hdep =>
              simp only [gTA, gCZ, gCS, gSI] at ho
              subst ho
              refine ⟨fun _ => ?_, fun hw => absurd (show true = false from hw) (by decide)⟩
              have ts : ρ (.tmp 13) = .int .i64 (k : Int) := hfr 13 (by kernel_rfl)
              simp [go_sem, ts]
              exact ⟨Below.refl _ _, rfl⟩
            | 4, _, ho, hf, hg, hfr, hdep =>
              simp only [gTA, gCZ, gCS, gSI] at ho
              subst ho
              refine ⟨fun _ => ?_, fun hw => absurd (show true = false from hw) (by decide)⟩
              have d0 : ρ (.tmp 67) = .slice (some ⟨b, off, none⟩) m scap := hdep 2 67 (by kernel_rfl) (by kernel_rfl)
              have d1 : ρ (.tmp 68) = .int .i64 (k : Int) := hdep 3 68 (by kernel_rfl) (by kernel_rfl)
              simp [go_sem, d0, d1, hki]
              exact ⟨Below.refl _ _, rfl⟩
            | 5, _, ho, hf, hg, hfr, hdep =>
              simp only [gTA, gCZ, gCS, gSI] at ho
              subst ho
              refine ⟨fun _ => ?_, fun hw => absurd (show true = false from hw) (by decide)⟩
              have d0 : ρ (.tmp 69) = .pointer (some ⟨b, off + k * 2, none⟩) := hdep 4 69 (by kernel_rfl) (by kernel_rfl)
              simp [go_sem, d0]
              exact ⟨Below.refl _ _, rfl⟩
            | 6, _, ho, hf, hg, hfr, hdep =>
              simp only [gTA, gCZ, gCS, gSI] at ho
              subst ho
              refine ⟨fun _ => ?_, fun hw => absurd (show true = false from hw) (by decide)⟩
              have cc := cell_keep6 (hC.1 (hf 7 (by decide) (by kernel_rfl))) CI.out
              have d0 : ρ (.tmp 70) = .pointer (some ⟨b, off + k * 2 + 1, none⟩) := hdep 5 70 (by kernel_rfl) (by kernel_rfl)
              simp [go_sem, d0, cc]
              exact ⟨Below.refl _ _, rfl⟩
            | 7, hm, _, _, _, _, _ => exact absurd hm (by decide)
            | 8, _, ho, hf, hg, hfr, hdep =>
              simp only [gTA, gCZ, gCS, gSI] at ho
              subst ho
              refine ⟨fun _ => ?_, fun hw => absurd (show true = false from hw) (by decide)⟩
              have t7 : (d 7 = true ∧ ∃ vs', ρ (.tmp 72) = .tuple #[.agg vs', .bool true] ∧ (d 11 = false → Shot w.heap.size B K Q t zs n w' vs')) := hdep 7 72 (by kernel_rfl) (by kernel_rfl)
              obtain ⟨t7a, vs9, e9, t7b⟩ := t7
              simp [go_sem, e9]
              exact ⟨Below.refl _ _, t7a, vs9, rfl, t7b⟩
            | 9, _, ho, hf, hg, hfr, hdep =>
              simp only [gTA, gCZ, gCS, gSI] at ho
              subst ho
              refine ⟨fun _ => ?_, fun hw => absurd (show true = false from hw) (by decide)⟩
              have t7 : (d 7 = true ∧ ∃ vs', ρ (.tmp 64) = .tuple #[.agg vs', .bool true] ∧ (d 11 = false → Shot w.heap.size B K Q t zs n w' vs')) := hdep 8 64 (by kernel_rfl) (by kernel_rfl)
              obtain ⟨t7a, vs9, e9, t7b⟩ := t7
              simp [go_sem, e9]
              exact ⟨Below.refl _ _, t7a, vs9, rfl, t7b⟩
            | 10, _, ho, hf, hg, hfr, hdep =>
              simp only [gTA, gCZ, gCS, gSI] at ho
              subst ho
              refine ⟨fun _ => ?_, fun hw => absurd (show true = false from hw) (by decide)⟩
              have t7 : (d 7 = true ∧ ∃ vs', ρ (.tmp 64) = .tuple #[.agg vs', .bool true] ∧ (d 11 = false → Shot w.heap.size B K Q t zs n w' vs')) := hdep 8 64 (by kernel_rfl) (by kernel_rfl)
              obtain ⟨t7a, vs9, e9, t7b⟩ := t7
              simp [go_sem, e9]
              exact ⟨Below.refl _ _, rfl⟩
            | 11, hm, _, _, _, _, _ => exact absurd hm (by decide)
            | 12, _, ho, hf, hg, hfr, hdep =>
              simp only [gTA, gCZ, gCS, gSI] at ho
              subst ho
              refine ⟨fun _ => ?_, fun hw => absurd (show true = false from hw) (by decide)⟩
              have d0 : ρ (.tmp 74) = .bool true := hdep 10 74 (by kernel_rfl) (by kernel_rfl)
              simp [go_sem, d0]
              exact ⟨Below.refl _ _, rfl⟩
            | n + 13, _, ho, _, _, _, _ => simp at ho
          · intro d i o ρ w' hm ho h0 hf hg hC hcs hfs hfr hdep
            match i, hm, ho, h0, hf, hg, hfr, hdep with
            | 0, hm, _, _, _, _, _, _ => exact absurd hm (by decide)
            | 1, hm, _, _, _, _, _, _ => exact absurd hm (by decide)
            | 2, hm, _, _, _, _, _, _ => exact absurd hm (by decide)
            | 3, hm, _, _, _, _, _, _ => exact absurd hm (by decide)
            | 4, hm, _, _, _, _, _, _ => exact absurd hm (by decide)
            | 5, hm, _, _, _, _, _, _ => exact absurd hm (by decide)
            | 6, hm, _, _, _, _, _, _ => exact absurd hm (by decide)
            | 7, _, ho, h0, hf, hg, hfr, hdep =>
              simp only [gTA, gCZ, gCS, gSI] at ho
              subst ho
              have t1 : ρ (.tmp 65) = .pointer (some ⟨B, 0, none⟩) := hdep 0 65 (by kernel_rfl) (by kernel_rfl)
              have t2 : ρ (.tmp 66) = .agg #[.int .u8 (t : Int), .slice p zs.length cp, .slice iA li ci, .slice oA lo co, .slice kA ks.length ck, .int .i64 (n : Int)] := hdep 1 66 (by kernel_rfl) (by kernel_rfl)
              have t3 : ρ (.tmp 71) = .slice x l c := hdep 6 71 (by kernel_rfl) (by kernel_rfl)
              have h11 : d 11 = false := hf 11 (by decide) (by kernel_rfl)
              have hbw := hC.1 h0
              refine ⟨rfl, ?_⟩
              simp [go_sem, t1, t2, t3, hfs, markUpon]
              refine (play_fire tt (HP.out.below hbw) hC.2.2 HI.out hn62 rfl).mono ?_
              rintro e u9 ⟨vs9, rfl, hS9, hb9⟩
              refine ⟨_, rfl, ⟨fun e => absurd e (by simp [doneAt]), fun e => absurd (show d 11 = true from e) (by rw [h11]; decide), hC.2.2.trans hb9⟩, ⟨rfl, vs9, rfl, fun _ => hS9⟩, ?_⟩
              intro j t _ hs
              match j, hs with
              | 0, hs => exact hs
              | 1, hs => exact hs
              | 2, hs => exact hs
              | 3, hs => exact hs
              | 4, hs => exact hs
              | 5, hs => exact hs
              | 6, hs => exact hs
              | 7, hs => exact absurd hs.1 (by rw [h0]; decide)
              | 8, hs => exact absurd hs.1 (by rw [h0]; decide)
              | 9, hs => exact absurd hs.1 (by rw [h0]; decide)
              | 10, hs => exact hs
              | 11, hs => exact hs
              | 12, hs => exact hs
              | _ + 13, _ => trivial
            | 8, hm, _, _, _, _, _, _ => exact absurd hm (by decide)
            | 9, hm, _, _, _, _, _, _ => exact absurd hm (by decide)
            | 10, hm, _, _, _, _, _, _ => exact absurd hm (by decide)
            | 11, _, ho, h0, hf, hg, hfr, hdep =>
              simp only [gTA, gCZ, gCS, gSI] at ho
              subst ho
              have tq : ρ (.tmp 10) = .pointer (some ⟨Q, 0, none⟩) := hfr 10 (by kernel_rfl)
              have t9 : (d 7 = true ∧ ∃ vs', ρ (.tmp 73) = .agg vs' ∧ (d 11 = false → Shot w.heap.size B K Q t zs n w' vs')) := hdep 9 73 (by kernel_rfl) (by kernel_rfl)
              obtain ⟨t9a, vs9, e9, t9b⟩ := t9
              have hsh := t9b h0
              obtain ⟨F9, N9, ks9, n9, ov9, q1, q2, q3, q4, q5, q6⟩ := id hsh
              obtain ⟨p1, k1, i1, l1, k2, o1, l2, k3, a1, k4, rfl, -⟩ := rn_agg q3
              obtain ⟨c0, c1, c2, c3, c4, c5, rfl⟩ := six_arr q5
              refine ⟨rfl, mark_store6 w' 31 (.tmp 10) (.tmp 73) rfl size_actor Q 31 _ _ _ _ _ _ _ _ _ _ _ _ _ _ _ _ _ _ _ _ tq e9 q4 ?_⟩
              intro u9 v9 hB9 hU9
              have lq : w.heap.size ≤ Q := HP.out.lq
              refine ⟨⟨fun e => absurd (show d 7 = false from e) (by rw [t9a]; decide), fun _ => shot_fill hsh hU9 hB9, hC.2.2.trans (hU9.below lq hC.2.2.size)⟩, fun h => absurd rfl h, ?_⟩
              intro j t _ hs
              match j, hs with
              | 0, hs => exact hs
              | 1, hs => exact hs
              | 2, hs => exact hs
              | 3, hs => exact hs
              | 4, hs => exact hs
              | 5, hs => exact hs
              | 6, hs => exact hs
              | 7, hs => exact ⟨hs.1, by obtain ⟨vs9, e9, -⟩ := hs.2; exact ⟨vs9, e9, fun q => absurd q (by simp [doneAt])⟩⟩
              | 8, hs => exact ⟨hs.1, by obtain ⟨vs9, e9, -⟩ := hs.2; exact ⟨vs9, e9, fun q => absurd q (by simp [doneAt])⟩⟩
              | 9, hs => exact ⟨hs.1, by obtain ⟨vs9, e9, -⟩ := hs.2; exact ⟨vs9, e9, fun q => absurd q (by simp [doneAt])⟩⟩
              | 10, hs => exact hs
              | 11, hs => exact hs
              | 12, hs => exact hs
              | _ + 13, _ => trivial
            | 12, hm, _, _, _, _, _, _ => exact absurd hm (by decide)
            | n + 13, _, ho, _, _, _, _, _ => simp at ho
          · intro V w9 hC9 hS
            have e12 : V 12 = .bool true := hS 12 (by decide) (by intro h; cases h)
            simp only [puts, put_none, e12]
            simp only [Act.put, List.setIfInBounds_toArray, List.set_cons_zero, List.set_cons_succ]
            clear hS e12
            obtain ⟨F9, N9, ks9, n9, vs9, q1, q2⟩ := hC9.2.1 rfl
            have HP9 := hidden6 q2
            have HB9 := hidden6 hC9.2.2
            clear q2 hC9
            go_wp2
            go_roundg (m - (k + 1))
            case measure => omega
            case rel => exact ⟨k + 1, n9, ks9, F9, N9, vs9, by omega, rfl, by go_num, by omega, HP9.out, HB9.out⟩
        · have e0 : (q == 0) = false := by simpa using hq
          go_upto_region 16 with fail
          refine wp_region_gen [] (fun d i u z => match i with
              | 0 => z = .pointer (some ⟨B, 0, none⟩)
              | 1 => z = .agg #[.int .u8 (t : Int), .slice p zs.length cp, .slice iA li ci, .slice oA lo co, .slice kA ks.length ck, .int .i64 (n : Int)]
              | 2 => z = .slice (some ⟨b, off, none⟩) m scap
              | 3 => z = .int .i64 (k : Int)
              | 4 => z = .pointer (some ⟨b, off + k * 2, none⟩)
              | 5 => z = .pointer (some ⟨b, off + k * 2, none⟩)
              | 6 => z = .int .i64 q
              | 7 => z = .bool true
              | 8 => z = .bool true
              | _ => True) (fun _ u => Below wr.heap.size wr u) (by kernel_rfl) (by kernel_rfl) (by kernel_rfl) ?_ ?_ ?_ ?_ ?_ ?_ (by kernel_rfl)
          · intro d i w v w' h hb
            match i, h with
            | 0, h => exact h
            | 1, h => exact h
            | 2, h => exact h
            | 3, h => exact h
            | 4, h => exact h
            | 5, h => exact h
            | 6, h => exact h
            | 7, h => exact h
            | 8, h => exact h
            | _ + 9, _ => trivial
          · intro d u u' h hb
            exact h.trans (hb.mono h.size)
          · exact Below.refl _ _
          · intro d i o ρ w' hm ho hf hg hC hcs hfs hfr hdep
            match i, hm, ho, hf, hg, hfr, hdep with
            | 0, _, ho, hf, hg, hfr, hdep =>
              simp only [gTA, gCZ, gSI] at ho
              subst ho
              refine ⟨fun _ => ?_, fun hw => absurd (show true = false from hw) (by decide)⟩
              have ts : ρ (.tmp 8) = .pointer (some ⟨B, 0, none⟩) := hfr 8 (by kernel_rfl)
              simp [go_sem, ts]
              exact ⟨Below.refl _ _, rfl⟩
            | 1, _, ho, hf, hg, hfr, hdep =>
              simp only [gTA, gCZ, gCS, gSI] at ho
              subst ho
              refine ⟨fun _ => ?_, fun hw => absurd (show true = false from hw) (by decide)⟩
              have tq : ρ (.tmp 10) = .pointer (some ⟨Q, 0, none⟩) := hfr 10 (by kernel_rfl)
              have bx := HP.out.box.below hC
              have c0 := bx.cell (k := 0) rfl
              have c1 := bx.cell (k := 1) rfl
              have c2 := bx.cell (k := 2) rfl
              have c3 := bx.cell (k := 3) rfl
              have c4 := bx.cell (k := 4) rfl
              have c5 := bx.cell (k := 5) rfl
              simp [go_sem, tq, c0, c1, c2, c3, c4, c5]
              exact ⟨Below.refl _ _, rfl⟩
            | 2, _, ho, hf, hg, hfr, hdep =>
              simp only [gTA, gCZ, gCS, gSI] at ho
              subst ho
              refine ⟨fun _ => ?_, fun hw => absurd (show true = false from hw) (by decide)⟩
              have ts : ρ (.tmp 2) = .slice (some ⟨b, off, none⟩) m scap := hfr 2 (by kernel_rfl)
              simp [go_sem, ts]
              exact ⟨Below.refl _ _, rfl⟩
            | 3, _, ho, hf, hg, hfr, hdep =>
              simp only [gTA, gCZ, gCS, gSI] at ho
              subst ho
              refine ⟨fun _ => ?_, fun hw => absurd (show true = false from hw) (by decide)⟩
              have ts : ρ (.tmp 13) = .int .i64 (k : Int) := hfr 13 (by kernel_rfl)
              simp [go_sem, ts]
              exact ⟨Below.refl _ _, rfl⟩
            | 4, _, ho, hf, hg, hfr, hdep =>
              simp only [gTA, gCZ, gCS, gSI] at ho
              subst ho
              refine ⟨fun _ => ?_, fun hw => absurd (show true = false from hw) (by decide)⟩
              have d0 : ρ (.tmp 77) = .slice (some ⟨b, off, none⟩) m scap := hdep 2 77 (by kernel_rfl) (by kernel_rfl)
              have d1 : ρ (.tmp 78) = .int .i64 (k : Int) := hdep 3 78 (by kernel_rfl) (by kernel_rfl)
              simp [go_sem, d0, d1, hki]
              exact ⟨Below.refl _ _, rfl⟩
            | 5, _, ho, hf, hg, hfr, hdep =>
              simp only [gTA, gCZ, gCS, gSI] at ho
              subst ho
              refine ⟨fun _ => ?_, fun hw => absurd (show true = false from hw) (by decide)⟩
              have d0 : ρ (.tmp 79) = .pointer (some ⟨b, off + k * 2, none⟩) := hdep 4 79 (by kernel_rfl) (by kernel_rfl)
              simp [go_sem, d0]
              exact ⟨Below.refl _ _, rfl⟩
            | 6, _, ho, hf, hg, hfr, hdep =>
              simp only [gTA, gCZ, gCS, gSI] at ho
              subst ho
              refine ⟨fun _ => ?_, fun hw => absurd (show true = false from hw) (by decide)⟩
              have cc := cell_keep6 hC CA'.out
              have d0 : ρ (.tmp 80) = .pointer (some ⟨b, off + k * 2, none⟩) := hdep 5 80 (by kernel_rfl) (by kernel_rfl)
              simp [go_sem, d0, cc]
              exact ⟨Below.refl _ _, rfl⟩
            | 7, _, ho, hf, hg, hfr, hdep =>
              simp only [gTA, gCZ, gCS, gSI] at ho
              subst ho
              refine ⟨fun _ => ?_, fun hw => absurd (show true = false from hw) (by decide)⟩
              have t1 : ρ (.tmp 75) = .pointer (some ⟨B, 0, none⟩) := hdep 0 75 (by kernel_rfl) (by kernel_rfl)
              have t2 : ρ (.tmp 76) = .agg #[.int .u8 (t : Int), .slice p zs.length cp, .slice iA li ci, .slice oA lo co, .slice kA ks.length ck, .int .i64 (n : Int)] := hdep 1 76 (by kernel_rfl) (by kernel_rfl)
              have t3 : ρ (.tmp 81) = .int .i64 q := hdep 6 81 (by kernel_rfl) (by kernel_rfl)
              simp [go_sem, t1, t2, t3, hfs]
              have hp9 := HP.out.below hC
              refine ⟨rfl, (lask7_any t tt F N w' B K zs ks n _ q hp9.bod hp9.ref).mono ?_⟩
              rintro e u9 ⟨rfl, hb9⟩
              exact ⟨_, rfl, hb9, rfl⟩
            | 8, _, ho, hf, hg, hfr, hdep =>
              simp only [gTA, gCZ, gCS, gSI] at ho
              subst ho
              refine ⟨fun _ => ?_, fun hw => absurd (show true = false from hw) (by decide)⟩
              have d0 : ρ (.tmp 82) = .bool true := hdep 7 82 (by kernel_rfl) (by kernel_rfl)
              simp [go_sem, d0]
              exact ⟨Below.refl _ _, rfl⟩
            | n + 9, _, ho, _, _, _, _ => simp at ho
          · intro d i o ρ w' hm ho h0 hf hg hC hcs hfs hfr hdep
            exact absurd hm (by simp)
          · intro V w9 hC9 hS
            have e8 : V 8 = .bool true := hS 8 (by decide) (by intro h; cases h)
            simp only [puts, e8]
            simp only [Act.put, List.setIfInBounds_toArray, List.set_cons_zero, List.set_cons_succ]
            clear hS e8
            have HP9 := hidden6 (HP.out.below hC9)
            have HB9 := hidden6 (HB.out.trans (hC9.mono HB.out.size))
            clear hC9
            go_wp2
            go_roundg (m - (k + 1))
            case measure => omega
            case rel => exact ⟨k + 1, n, ks, F, N, _, by omega, rfl, by go_num, by omega, HP9.out, HB9.out⟩
      · have ek : k = m := by omega
        subst ek
        have hki : ¬ (k : Int) < (k : Int) := by omega
        have AS : Hid (∀ V j, Below wr.heap.size wr V → Calls Try.prog 12 #[.pointer (some ⟨B, 0, none⟩), .agg #[.int .u8 (t : Int), .slice p zs.length cp, .slice iA li ci, .slice oA lo co, .slice kA ks.length ck, .int .i64 (n : Int)], .int .i64 j] V (AskEnd V)) := fun V j hb => lask7_any t tt F N V B K zs ks n _ j (HP.out.below hb).bod (HP.out.below hb).ref
        have BX := hidden6 HP.out.box
        go_wp2_with (first
          | (go_at_call 12; (with_reducible refine (AS.out w8 3 B8.out).mono ?_); rintro e w9 ⟨rfl, b9⟩)
          | (go_at_call 12; (with_reducible refine (AS.out w7 2 B7.out).mono ?_); rintro e w8 ⟨rfl, b8⟩; have B8 := hidden6 (B7.out.trans (b8.mono B7.out.size)); clear b8 y0 y1 y2 y3 y4 y5; have x0 : w8.cell? ⟨Q, 0, none⟩ = some (.int .u8 (t : Int)) := (BX.out.below B8.out).cell rfl; have x1 : w8.cell? ⟨Q, 1, none⟩ = some (.slice p zs.length cp) := (BX.out.below B8.out).cell rfl; have x2 : w8.cell? ⟨Q, 2, none⟩ = some (.slice iA li ci) := (BX.out.below B8.out).cell rfl; have x3 : w8.cell? ⟨Q, 3, none⟩ = some (.slice oA lo co) := (BX.out.below B8.out).cell rfl; have x4 : w8.cell? ⟨Q, 4, none⟩ = some (.slice kA ks.length ck) := (BX.out.below B8.out).cell rfl; have x5 : w8.cell? ⟨Q, 5, none⟩ = some (.int .i64 (n : Int)) := (BX.out.below B8.out).cell rfl)
          | (go_at_call 9; (with_reducible refine (AW.out wr).mono ?_); rintro e w7 ⟨rfl, b7⟩; have B7 := hidden6 b7; clear b7; have y0 : w7.cell? ⟨Q, 0, none⟩ = some (.int .u8 (t : Int)) := (BX.out.below B7.out).cell rfl; have y1 : w7.cell? ⟨Q, 1, none⟩ = some (.slice p zs.length cp) := (BX.out.below B7.out).cell rfl; have y2 : w7.cell? ⟨Q, 2, none⟩ = some (.slice iA li ci) := (BX.out.below B7.out).cell rfl; have y3 : w7.cell? ⟨Q, 3, none⟩ = some (.slice oA lo co) := (BX.out.below B7.out).cell rfl; have y4 : w7.cell? ⟨Q, 4, none⟩ = some (.slice kA ks.length ck) := (BX.out.below B7.out).cell rfl; have y5 : w7.cell? ⟨Q, 5, none⟩ = some (.int .i64 (n : Int)) := (BX.out.below B7.out).cell rfl))
        go_ret
        have p8 := HB.out.trans (B8.out.mono HB.out.size)
        exact ⟨rfl, p8.trans (b9.mono p8.size)⟩
  · have NW : Hid (∀ V g, At V (some ⟨g, 0, none⟩) zs → Calls Try.prog 6 #[.int .u8 (t : Int), .slice (some ⟨g, 0, none⟩) zs.length (zs.length + 4)] V (Refused V f)) := fun V g hat => (new_any t (some ⟨g, 0, none⟩) zs zs.length (zs.length + 4) V ht rfl hA.fits (fun h => by cases h) hat).mono fun _ _ h => refused_of h hf h0
    have RN : Hid (∀ V, Below w.heap.size w V → Calls Try.prog 7 #[.int .u8 (t : Int), .slice a zs.length cap] V (RBad V f)) := fun V hb => rnew7_no t a zs zs.length cap V ht (hA.below hb) hf h0
    have q1 : (f != f) = false := by simp
    have q2 : (f == 0) = false := by simpa using h0
    have q3 : (f != 0) = true := by simpa using h0
    clear hA hS hf
    go_enter Try.func3, Try.ntmps3
    go_wp2_with (first
      | (refine wpList_store6 _ rfl 31 (.tmp 10) (.tmp 27) rfl rfl size_actor w3.heap.size 31 _ _ _ _ _ _ _ _ _ _ _ _ _ _ _ _ _ _ _ _ rfl rfl (blkA_new 31 w3 #[.int .u8 0, .slice none 0 0, .slice none 0 0, .slice none 0 0, .slice none 0 0, .int .i64 0]) ?_; intro w4 hN4 hU4; have b4 := ((Below.refl w3.heap.size w3).alloc (Nat.le_refl _) (.cells #[.int .u8 0, .slice none 0 0, .slice none 0 0, .slice none 0 0, .slice none 0 0, .int .i64 0] 31)).trans (hU4.below (Nat.le_refl _) (by simp)); have BB4 := hidden6 (BB3.out.trans (b4.mono BB3.out.size)); have LD4 := hidden6 (LD3.out.below b4); clear hN4 hU4 b4)
      | (go_at_call 9; (with_reducible refine (AW.out _).mono ?_); rintro e w6 ⟨rfl, b6⟩)
      | (go_at_call 8; (with_reducible refine (KP.out w4 g BB4.out LD4.out).mono ?_); rintro e w5 ⟨rfl, b5⟩; have BB5 := hidden6 (BB4.out.trans (b5.mono BB4.out.size)); clear b5)
      | (go_at_call 7; (with_reducible refine (RN.out w2 BB2.out).mono ?_); rintro e w3 ⟨rfl, b3⟩; have BB3 := hidden6 (BB2.out.trans (b3.mono BB2.out.size)); have LD3 := hidden6 (LD2.out.below b3); clear b3)
      | (go_at_call 6; (with_reducible refine (NW.out w1 g LD1.out.at).mono ?_); rintro e w2 ⟨rfl, b2⟩; have BB2 := hidden6 (BB1.out.trans (b2.mono BB1.out.size)); have LD2 := hidden6 (LD1.out.below b2); clear b2)
      | (go_at_call 5; (with_reducible refine LE.out.mono ?_); rintro e w1 ⟨g, rfl, hL1, b1, hw1⟩; have LD1 := hidden6 hL1; have BB1 := hidden6 b1; clear hL1 b1 hw1))
    go_ret
    exact ⟨rfl, BB5.out.trans (b6.mono BB5.out.size)⟩
end Go.Proofs.Ytehgkgbijhobdaa

/- Texts of one chain, laid one behind the other. -/
import Derived.Test.YtmeogapffdgjlaaPartNestRanges14
import Derived.Maps.AppendAt
import Derived.Test.YtmeogapffdgjlaaPartNestRanges13
namespace Go.Proofs.Ytmeogapffdgjlaa
open Go.ChangeShapes Go.WideShapes Go.ChangeAt Go.RowKit Go.Shelf
attribute [local go_sem] Oper.semAt_some
/-- The nest that All keeps. -/
def keptZ (l : List Lp) : List Lp := if chkZ l = 0 then l else []
theorem kept_pos (l : List Lp) : posZ (keptZ l) := by
  unfold keptZ
  split
  · rename_i h; exact err_pos _ _ _ (chk_zero h).1
  · exact pos_nil
theorem kept_tot (l : List Lp) : totZ (keptZ l) ≤ 2048 := by
  unfold keptZ
  split
  · rename_i h; exact (chk_zero h).2
  · rw [tot_nil]; omega
theorem kept_siz (l : List Lp) : sizZ (keptZ l) ≤ sizZ l := by
  unfold keptZ
  split
  · exact Nat.le_refl _
  · rw [siz_nil]; omega
/-- What All answers: a function value over a box that holds a copy. -/
structure AllZ (B : Nat) (w : World) (kb : Nat) (l : List Lp) : Prop where
  lo : B ≤ kb
  box : ∃ (q : Option Addr) (c : Nat), BlkA 22 kb w #[.slice q (keptZ l).length c] ∧ Nst (fun k => B ≤ k ∧ TyZ w k) false w q (keptZ l)
theorem AllZ.later {B : Nat} {w w' : World} {kb : Nat} {l : List Lp} (h : AllZ B w kb l) (hb : Below w.heap.size w w') : AllZ B w' kb l := by
  obtain ⟨h1, q, c, h2, h3⟩ := h
  exact ⟨h1, q, c, h2.below hb, (h3.keep fun k hk => hb.block k hk.2.lt).mono fun k hk => ⟨hk.1, hk.2.keep (hb.block k hk.2.lt)⟩⟩
set_option maxRecDepth 100000 in
set_option maxHeartbeats 4000000 in
theorem allZ_any (l : List Lp) (m : Bool) (a : Option Addr) (c : Nat) (w : World) (hN : Nst (· < w.heap.size) m w a l) (hs : sizZ l ≤ 1000000) :
    Calls Try.prog 13 #[.slice a l.length c] w fun e w' => ∃ kb, e = .returned (.func (.func 40) #[] #[.pointer (some ⟨kb, 0, none⟩)]) ∧ AllZ w.heap.size w' kb l ∧ Below w.heap.size w w' := by
  have b0 := (Below.refl w.heap.size w).alloc (Nat.le_refl _) (.cells #[.slice none 0 0] 22)
  have hsz : (w.alloc (.cells #[.slice none 0 0] 22)).heap.size = w.heap.size + 1 := World.size_alloc _ _
  have CK := hiddenN (checkZ_any l m a c _ ((hN.below b0).mono (G := (· < (w.alloc (.cells #[.slice none 0 0] 22)).heap.size)) (fun k hk => by show k < _; rw [hsz]; exact Nat.lt_succ_of_lt hk)) hs)
  have CO : Hid (∀ u, Below w.heap.size w u → Calls Try.prog 39 #[.slice a l.length c] u fun e w' => ∃ q, e = .returned (.slice (some ⟨q, 0, none⟩) l.length l.length) ∧ CpdZ u.heap.size w' q l ∧ Below u.heap.size u w') := fun u hu => copiedZ_any l w.heap.size m a c u (hN.below hu) hu.size hs
  have X0 := hiddenN (blkA_new 22 w #[.slice none 0 0])
  have B0 := hiddenN b0
  clear b0 hN hs hsz
  obtain ⟨L, hL⟩ : ∃ q, l.length = q := ⟨_, rfl⟩
  rw [hL] at CK CO ⊢
  have HL := hiddenN hL
  clear hL
  by_cases he : chkZ l = 0
  · rw [he] at CK
    go_enter Try.func13, Try.ntmps13
    go_upto_region 2 with fail
    generalize w.alloc (.cells #[.slice none 0 0] 22) = W0 at *
    have HE := hiddenN he
    clear he
    go_upto_region 3 with (go_at_call 25; (with_reducible refine CK.out.mono ?_); rintro e W1 ⟨rfl, b1⟩; have X1 := hiddenN (X0.out.below b1); have B1 := hiddenN (B0.out.trans (b1.mono B0.out.size)); clear b1)
    go_upto_region 4 with (go_at_call 39; (with_reducible refine (CO.out W1 B1.out).mono ?_); rintro e W2 ⟨q, rfl, hc, b2⟩; have X2 := hiddenN (X1.out.below b2); have HB1 := hiddenN B1.out.size; have B2 := hiddenN (B1.out.trans (b2.mono B1.out.size)); have HC := hiddenN hc; have z0 := X2.out.cell (k := 0) rfl; have f0 := X2.out.frozen 0; simp only [List.getElem_toArray, List.getElem_cons_zero] at z0; clear b2 hc)
    have X3 := hiddenN (X2.out.set 0 (.slice (some ⟨q, 0, none⟩) L L))
    have b3 := But.set W2 w.heap.size 0 (.slice (some ⟨q, 0, none⟩) L L)
    have B3 := hiddenN (B2.out.trans (b3.below (Nat.le_refl _) B2.out.size))
    have hwW : w.heap.size < W1.heap.size := X1.out.lt
    have HN : Hid (Nst (fun k => w.heap.size ≤ k ∧ TyZ (W2.setCell ⟨w.heap.size, 0, none⟩ (.slice (some ⟨q, 0, none⟩) L L)) k) false (W2.setCell ⟨w.heap.size, 0, none⟩ (.slice (some ⟨q, 0, none⟩) L L)) (some ⟨q, 0, none⟩) l) := by
      have hk : ∀ k, (W1.heap.size ≤ k ∧ TyZ W2 k) → (W2.setCell ⟨w.heap.size, 0, none⟩ (.slice (some ⟨q, 0, none⟩) L L)).heap[k]? = W2.heap[k]? := fun k hk => b3.block k hk.2.lt (by omega)
      refine .inr ⟨q, 0, rfl, ?_⟩
      exact NstR.mono (fun k hk2 => ⟨by omega, hk2.2.keep (hk k hk2)⟩) _ _ _ (NstR.keep hk _ _ _ HC.out.nst)
    clear b3 z0 f0 hwW
    generalize W2.setCell ⟨w.heap.size, 0, none⟩ (.slice (some ⟨q, 0, none⟩) L L) = W3 at *
    go_wp2
    go_ret
    have ek : keptZ l = l := by unfold keptZ; rw [if_pos HE.out]
    exact ⟨_, rfl, ⟨Nat.le_refl _, some ⟨q, 0, none⟩, L, by rw [ek, HL.out]; exact X3.out, by rw [ek]; exact HN.out⟩, B3.out⟩
  · obtain ⟨E, hE⟩ : ∃ q, chkZ l = q := ⟨_, rfl⟩
    rw [hE] at CK he
    have hb : ((E : Int) == 0) = false := by simpa using he
    have ek : Hid (keptZ l = []) := by show _ = _; unfold keptZ; rw [hE, if_neg he]
    clear hE he
    go_enter Try.func13, Try.ntmps13
    go_upto_region 2 with fail
    generalize w.alloc (.cells #[.slice none 0 0] 22) = W0 at *
    go_wp2_with (go_at_call 25; (with_reducible refine CK.out.mono ?_); rintro e W1 ⟨rfl, b1⟩; have X1 := hiddenN (X0.out.below b1); have B1 := hiddenN (B0.out.trans (b1.mono B0.out.size)); clear b1)
    go_ret
    exact ⟨_, rfl, ⟨Nat.le_refl _, none, 0, by rw [ek.out]; exact X1.out, .inl ek.out⟩, B1.out⟩
set_option maxRecDepth 100000 in
set_option maxHeartbeats 4000000 in
theorem allOneZ_any (l : List Lp) (l0 : Nat) (F : Nat → Prop) (J Jx : List Int → World → Prop) (hJ : NewZ J) (hY : YldZ l0 F (totZ l) J Jx) (hT : totZ l ≤ 1000000) (hs : sizZ l ≤ 1000000) (hp : posZ l) (kb : Nat) (q : Option Addr) (c : Nat) (W : World) (hB : BlkA 22 kb W #[.slice q l.length c]) (hN : Nst F false W q l) (hF : ∀ k, F k → k < W.heap.size) (h0 : J [] W) :
    Calls Try.prog 40 #[.func (.yield l0) #[] #[], .pointer (some ⟨kb, 0, none⟩)] W fun e W' => (∃ v, e = .returned v) ∧ ((∃ xs, xs = expZ l ∧ J xs W') ∨ (∃ pre, pre <+: expZ l ∧ Jx pre W')) := by
  have TE := hiddenN (tellZ_any l l0 F (totZ l) J Jx hJ hY hT false q c [] W hN hF hs hp h0 (by simp))
  unfold TelE at TE
  have y0 := hB.cell (k := 0) rfl
  simp only [List.getElem_toArray, List.getElem_cons_zero] at y0
  generalize l.length = L at *
  clear hN h0 hB
  go_enter Try.func40, Try.ntmps40
  go_wp2_with (go_at_call 41; (with_reducible refine TE.out.mono ?_); rintro e W1 (⟨rfl, hj, -⟩ | ⟨rfl, p, hq, hx⟩))
  · go_end0
    exact ⟨⟨_, rfl⟩, .inl ⟨_, rfl, by simpa using hj⟩⟩
  · go_end0
    exact ⟨⟨_, rfl⟩, .inr ⟨p, hq, by simpa using hx⟩⟩
theorem grown_below {W W' : World} (h : Below W.heap.size W W') : W.grownBy W' none := ⟨h.os, h.tape, h.output, h.size, fun k hk _ => h.block k hk⟩
theorem abides_new {B : Nat} {J : List Int → World → Prop} (h : AbidesFrom B J) : NewZ J := fun pre W W' hj hb => h pre W W' none hj (grown_below hb) (fun r e => by cases e)
/-- What All answers, as something to range over. -/
theorem allZ_stops (n B : Nat) (w : World) (kb : Nat) (l : List Lp) (h : AllZ B w kb l) (hs : sizZ l ≤ 1000000) :
    SeqStopsK Fence.wide n Try.prog 40 #[.pointer (some ⟨kb, 0, none⟩)] (fun x : Int => #[Value.int .i64 x]) (KpZ (TyZ w)) (fun ys => ys = expZ (keptZ l)) (fun pre => pre <+: expZ (keptZ l)) (totZ (keptZ l)) w := fun l0 J Jx W hW hJ _ hY h0 => by
  obtain ⟨h1, q, c, h2, h3⟩ := h
  exact callsIn_wide.2 (allOneZ_any (keptZ l) l0 (TyZ w) J Jx (abides_new hJ) (fun m pre x W1 hj hl => YieldAt.anyZ m (hY pre x W1 hj hl)) (by have := kept_tot l; omega) (Nat.le_trans (kept_siz l) hs) (kept_pos l) kb q c W (h2.below hW) ((h3.mono fun k hk => hk.2).keep fun k hk => hW.block k hk.lt) (fun k hk => Nat.lt_of_lt_of_le hk.lt hW.size) h0)
theorem kpZ_b {w : World} (W : World) (l : Nat) (o o' : Obj) (hl : w.heap.size ≤ l) (h : W.heap[l]? = some o) (hc : o.isCells = false) (_ : o.isWalk = false) : KpZ (TyZ w) W (W.putObj l o') := by
  have hg := grownBy_putObj' W l o'
  refine ⟨⟨hg.size, fun k hk => ?_⟩, fun k cs hk => ?_⟩
  · by_cases e : k < W.heap.size
    · exact hg.block k e (fun q => by cases q; have := hk.lt; omega)
    · have h1 := hk.lt
      have h2 := (Array.getElem?_eq_some_iff.1 h).1
      omega
  · refine hk.keep (hg.block k hk.lt (fun q => ?_))
    cases q
    rw [show W.heap[l]? = _ from hk] at h
    cases h
    cases hc
/-- A box that holds a row of numbers of a call's own, while they are collected. -/
structure ColZ (B : Nat) (w0 W0 : World) (lb : Nat) (pre : List Int) (W : World) : Prop where
  box : ∃ v, Boxed W lb 26 v ∧ W.ownsRow B 3 1 v pre.length (pre.map (Value.int .i64)) ∧ (v = .slice none 0 0 → pre = [])
  below : Below B w0 W
  keeps : KpZ (TyZ W0) W0 W
theorem ColZ.own {B : Nat} {w0 W0 : World} {lb : Nat} (hB : B ≤ W0.heap.size) (hw : B ≤ w0.heap.size) : OwnFrom W0.heap.size (ColZ B w0 W0 lb) := by
  intro s W W' row h hg hr
  obtain ⟨h1, h2, h3⟩ := h
  refine ⟨holdsRow_own B lb 26 3 1 (fun pre : List Int => pre.length) (fun pre => pre.map (Value.int .i64)) (fun pre v => v = .slice none 0 0 → pre = []) s W W' row h1 hg (fun r e => (hr r e).2), ?_, ?_⟩
  · exact h2.grown hg (Nat.le_trans hw h2.size) (fun k e => Nat.le_trans hB (hr k e).1)
  · refine h3.trans ⟨⟨hg.size, fun k hk => ?_⟩, fun k cs hk => ?_⟩
    · obtain ⟨cs, hk⟩ := hk
      have := h3.2 k cs hk
      refine hg.block k this.lt (fun e => ?_)
      obtain ⟨-, o, ho, hc⟩ := hr k e.symm
      rw [show W.heap[k]? = _ from this] at ho
      cases ho; cases hc
    · refine hk.keep (hg.block k hk.lt (fun e => ?_))
      obtain ⟨-, o, ho, hc⟩ := hr k e.symm
      rw [show W.heap[k]? = _ from hk] at ho
      cases ho; cases hc
/-- One more number. -/
theorem ColZ.step {B : Nat} {w0 W0 W w1 : World} {lb : Nat} {pre : List Int} {x : Int} {v v' : Value} {tmp : Obj} (h : ColZ B w0 W0 lb pre W) (hv : Boxed W lb 26 v) (hrow : W.ownsRow B 3 1 v pre.length (pre.map (Value.int .i64))) (hlb : B ≤ lb) (hBW : B ≤ W.heap.size) (hv' : v' ≠ .slice none 0 0)
    (hown' : w1.ownsRow B 3 1 v' (pre.length + 1) (pre.map (Value.int .i64) ++ [.int .i64 x])) (hgrow : (W.alloc tmp).grownBy w1 v.ownBlock) :
    Boxed w1 lb 26 v ∧ KeepsFrom W0.heap.size W (w1.setCell ⟨lb, 0, none⟩ v') ∧ KpZ (TyZ W0) W (w1.setCell ⟨lb, 0, none⟩ v') ∧ ColZ B w0 W0 lb (pre ++ [x]) (w1.setCell ⟨lb, 0, none⟩ v') := by
  obtain ⟨hv1, hv2, hr2, hk2, hb2⟩ := hv.appended (by decide) hrow hBW hlb hown' hgrow
  have hty : ∀ k cs, BlkA 57 k W cs → BlkA 57 k (w1.setCell ⟨lb, 0, none⟩ v') cs := fun k cs hk => by
    have a1 : BlkA 57 k (W.alloc tmp) cs := hk.below ((Below.refl _ _).alloc (Nat.le_refl _) tmp)
    have n1 : some k ≠ v.ownBlock := by
      rcases (hrow.alloc tmp).2 with ⟨rfl, _⟩ | ⟨g, cap, cur, rfl, _, hgb, _⟩
      · simp [Value.ownBlock]
      · intro e
        obtain rfl : k = g := by simpa [Value.ownBlock] using e
        have := (show (W.alloc tmp).heap[k]? = _ from a1).symm.trans hgb
        simp at this
    have a2 : BlkA 57 k w1 cs := a1.keep (hgrow.block k a1.lt n1)
    refine a2.keep (Below.heap_setCell _ _ _ _ ?_)
    intro e
    have e' : k = lb := e
    subst e'
    have := (show w1.heap[k]? = _ from a2).symm.trans hv1
    simp at this
  have hkp : KpZ (TyZ W0) W (w1.setCell ⟨lb, 0, none⟩ v') := by
    refine ⟨⟨hb2.size, fun k hk => ?_⟩, hty⟩
    obtain ⟨cs, hk⟩ := hk
    have q1 := h.keeps.2 k cs hk
    exact (show _ = _ from hty k cs q1).trans (show W.heap[k]? = _ from q1).symm
  refine ⟨hv1, hk2.from _, hkp, ⟨⟨v', hv2, ?_, fun e => absurd e hv'⟩, h.below.trans hb2, h.keeps.trans hkp⟩⟩
  simpa using hr2
attribute [local go_sem] Oper.semAt_some
def ExpE (l : List Lp) (w : World) (e : Ending) (w' : World) : Prop := ∃ (d : Option Addr) (c : Nat), e = .returned (.tuple #[.slice d (expZ (keptZ l)).length c, .int .i64 (chkZ l : Int)]) ∧ CapR w.heap.size w' d c (expZ (keptZ l)) ∧ Below w.heap.size w w'
theorem row_slice {w : World} {B e size n : Nat} {v : Value} {xs : List Value} (h : w.ownsRow B e size v n xs) : ∃ d c, v = .slice d n c := by
  rcases h.2 with ⟨hv, hn⟩ | ⟨g, cap, cur, hv, -⟩
  · exact ⟨none, 0, by rw [hv, hn]⟩
  · exact ⟨_, _, hv⟩
set_option maxRecDepth 100000 in
set_option maxHeartbeats 8000000 in
theorem expandZ_bad (l : List Lp) (m : Bool) (a : Option Addr) (c : Nat) (w : World) (hN : Nst (· < w.heap.size) m w a l) (hs : sizZ l ≤ 1000000) (he : chkZ l ≠ 0) :
    Calls Try.prog 26 #[.slice a l.length c] w (ExpE l w) := by
  have ME := hiddenN (measZ_any l m a c w hN hs)
  unfold sizV at ME
  rw [if_neg he] at ME
  obtain ⟨RE, hRE⟩ : ∃ Q, ExpE l w = Q := ⟨_, rfl⟩
  rw [hRE]
  have HRE := hiddenN hRE
  have ek : Hid (keptZ l = []) := by show _ = _; unfold keptZ; rw [if_neg he]
  obtain ⟨E, hE⟩ : ∃ q, chkZ l = q := ⟨_, rfl⟩
  rw [hE] at ME he
  have HE := hiddenN hE
  have hb : ((E : Int) != 0) = true := by simpa using he
  generalize l.length = L at *
  clear hRE hE hN he
  go_enter Try.func26, Try.ntmps26
  go_wp2_with (go_at_call 29; (with_reducible refine ME.out.mono ?_); rintro e W1 ⟨rfl, b1⟩; have B1 := hiddenN b1; clear b1)
  rw [← HRE.out]
  exact ⟨none, 0, by rw [ek.out, exp_nil, HE.out]; rfl, by rw [ek.out, exp_nil]; exact CapR.nil _ _, B1.out.alloc B1.out.size _⟩
set_option maxRecDepth 100000 in
set_option maxHeartbeats 8000000 in
theorem expandZ_good (l : List Lp) (m : Bool) (a : Option Addr) (c : Nat) (w : World) (hN : Nst (· < w.heap.size) m w a l) (hs : sizZ l ≤ 1000000) (he : chkZ l = 0) :
    Calls Try.prog 26 #[.slice a l.length c] w (ExpE l w) := by
  have ME := hiddenN (measZ_any l m a c w hN hs)
  unfold sizV at ME
  rw [if_pos he, he] at ME
  have ek : keptZ l = l := by unfold keptZ; rw [if_pos he]
  have AL : Hid (∀ u, Below w.heap.size w u → Calls Try.prog 13 #[.slice a l.length c] u fun e w' => ∃ kb, e = .returned (.func (.func 40) #[] #[.pointer (some ⟨kb, 0, none⟩)]) ∧ AllZ u.heap.size w' kb l ∧ Below u.heap.size u w') := fun u hu => allZ_any l m a c u ((hN.below hu).mono fun k hk => Nat.lt_of_lt_of_le hk hu.size) hs
  obtain ⟨RE, hRE⟩ : ∃ Q, ExpE l w = Q := ⟨_, rfl⟩
  rw [hRE]
  have HRE := hiddenN hRE
  have HE := hiddenN he
  have HEK := hiddenN ek
  have HS := hiddenN hs
  have hT := (chk_zero he).2
  obtain ⟨T, hTT⟩ : ∃ q, totZ l = q := ⟨_, rfl⟩
  rw [hTT] at ME hT
  have HTT := hiddenN hTT
  generalize (lvsZ l : Int) = v0 at *
  generalize (hdsZ l : Int) = v1 at *
  generalize (dpsZ 0 l : Int) = v2 at *
  obtain ⟨L, hL⟩ : ∃ q, l.length = q := ⟨_, rfl⟩
  rw [hL] at ME AL ⊢
  clear hRE hL hN he ek hTT
  obtain ⟨i0, hi, hz0, hz1, hz2⟩ := info_parts Try.info3
  refine (callsIn_wide (n := 9)).1 (callsIn_of_wp_marks Try.func26 rfl trivial ?_ rfl)
  simp only [Try.ntmps26, List.size_toArray, List.length_cons, List.length_nil, Nat.reduceAdd, Nat.reduceSub, Array.replicate_succ, Array.replicate_zero, List.push_toArray, List.append_toArray, List.nil_append, List.cons_append]
  refine wpIn_wide.2 ?_
  go_upto_region 2 with (go_at_call 29; (with_reducible refine ME.out.mono ?_); rintro e W1 ⟨rfl, b1⟩; have B1 := hiddenN b1; clear b1)
  have b2 := B1.out.alloc B1.out.size (.cells #[.int .i64 v0, .int .i64 v1, .int .i64 v2, .int .i64 (T : Int)] 47)
  have X2 := hiddenN (blkA_new 47 W1 #[.int .i64 v0, .int .i64 v1, .int .i64 v2, .int .i64 (T : Int)])
  have B2 := hiddenN b2
  obtain ⟨x1, hx1⟩ : ∃ q, W1.heap.size = q := ⟨_, rfl⟩
  rw [hx1] at X2 ⊢
  clear b2 hx1
  generalize W1.alloc (.cells #[.int .i64 v0, .int .i64 v1, .int .i64 v2, .int .i64 (T : Int)] 47) = W2 at *
  have y3 := X2.out.cell (k := 3) rfl
  simp only [List.getElem_toArray, List.getElem_cons_zero, List.getElem_cons_succ] at y3
  obtain ⟨W3, hr3, ho3, hg3⟩ := run_make_own (P := Try.prog) W2 w.heap.size 26 3 i0 (.int .i64 0) 1 Try.underlying26 hi hz0 hz1 .i64 .i64 T (by rw [hz2]; omega) (by unfold maxLen; omega) B2.out.size
  have B3 := hiddenN (B2.out.grown hg3 B2.out.size (fun k hk => by cases hk))
  have O3 := hiddenN ho3
  clear ho3 hg3
  go_upto_region 5 with fail
  clear hr3 y3
  obtain ⟨g, hg⟩ : ∃ q, W2.heap.size = q := ⟨_, rfl⟩
  rw [hg] at O3 ⊢
  clear hg
  have BX := hiddenN (Boxed.new W3 26 (.slice (some ⟨g, 0, none⟩) 0 T))
  have b4 := B3.out.alloc B3.out.size (.cells #[.slice (some ⟨g, 0, none⟩) 0 T] 26)
  have O4 := hiddenN (O3.out.alloc (.cells #[.slice (some ⟨g, 0, none⟩) 0 T] 26))
  have B4 := hiddenN b4
  have hlb : w.heap.size ≤ W3.heap.size := B3.out.size
  obtain ⟨lb, hlbE⟩ : ∃ q, W3.heap.size = q := ⟨_, rfl⟩
  rw [hlbE] at BX hlb ⊢
  clear b4 hlbE O3
  generalize W3.alloc (.cells #[.slice (some ⟨g, 0, none⟩) 0 T] 26) = W4 at *
  go_wp2_with (go_at_call 13; (with_reducible refine (AL.out W4 B4.out).mono ?_); rintro e W5 ⟨kb, rfl, ha, b5⟩; have HA := hiddenN ha; have BX5 := hiddenN (BX.out.kept (grown_below b5) (by simp)); have O5 := hiddenN (O4.out.kept (grown_below b5) (.inr (by simp [Value.ownBlock]))); have B5 := hiddenN (B4.out.trans (b5.mono B4.out.size)); clear b5 ha)
  have hB5 : w.heap.size ≤ W5.heap.size := B5.out.size
  have hTk : Hid (totZ (keptZ l) = T) := by show _ = _; rw [HEK.out, HTT.out]
  refine (wpIn_wide (n := 9)).1 ?_
  refine wpIn_rangeFunc_ownG (F := Fence.wide) rfl (by decide) (gf := 40) (lb := #[.pointer (some ⟨kb, 0, none⟩)]) rfl trivial (enters_of Try.func40 (by kernel_rfl) rfl)
    (allZ_stops (9 - 1) W4.heap.size W5 kb l HA.out HS.out) (fun h k => KpZ.trans h k) (kpZ_b (w := W5)) (Below.refl _ _) (fun _ => rfl)
    (fun pre W => ColZ w.heap.size w W5 lb pre W) (fun _ _ _ => False) (ColZ.own hB5 (Nat.le_refl _)) (fun _ _ _ _ _ hs _ _ => hs)
    ⟨⟨_, BX5.out, O5.out, fun e => by cases e⟩, B5.out, KpZ.refl _ _⟩
    (fun x => { tmps := #[.slice a L c, undef, .slice none 0 0, .int .i64 0, .pointer (some ⟨x1, 0, none⟩), .int .i64 0, .pointer (some ⟨lb, 0, none⟩), .int .i64 x, .tuple #[.agg #[.int .i64 v0, .int .i64 v1, .int .i64 v2, .int .i64 (T : Int)], .int .i64 0], .slice a L c, .tuple #[.agg #[.int .i64 v0, .int .i64 v1, .int .i64 v2, .int .i64 (T : Int)], .int .i64 0], .agg #[.int .i64 v0, .int .i64 v1, .int .i64 v2, .int .i64 (T : Int)], .int .i64 0, .int .i64 0, .bool false, undef, .pointer (some ⟨x1, 3, none⟩), .int .i64 (T : Int), .slice (some ⟨g, 0, none⟩) 0 T, .slice a L c, .func (.func 40) #[] #[.pointer (some ⟨kb, 0, none⟩)], .int .i64 x, undef, undef, undef, undef, undef], defers := [] }) ?assign ?body ?done ?stop
  case assign =>
    intro l9 x W K hK
    gi_wp2
    exact hK
  case body =>
    rintro l9 pre x W hcol hlt
    obtain ⟨v, hv, hrow, hnil⟩ := hcol.box
    have hB := hcol.below
    have hc := hv.cell
    have hlen : pre.length < T := by rw [← hTk.out]; exact hlt
    gi_wp2_with (gi_at_builtin; refine wpListIn_append_own _ rfl _ _ 26 rfl w.heap.size 3 i0 (.int .i64 0) 1 8 Try.underlying26 hi hz0 hz1 hz2 rfl (by decide) _ _ _ rfl (hrow.alloc _) ⟨W.heap.size, 0, none⟩ 1 1 [.int .i64 x] rfl rfl (cell_one_new _ _ _) (by simp [Value.oneCell']) (by unfold maxLen; omega) (by omega) (by have := hB.size; simp; omega) ?_; intro v' w1 hown' hgrow _; obtain ⟨g', cap', rfl⟩ := ownsRow_succ hown'; obtain ⟨hv1, hk2, hkp, hcol2⟩ := hcol.step hv hrow hlb hB.size (by intro e; cases e) hown' hgrow; have hc1 := hv1.cell; have hf1 := hv1.frozen)
    exact ⟨hk2, hkp, hcol2⟩
  case done =>
    rintro D ys W hD rfl hcol hK
    obtain ⟨v, hv, hrow, hnil⟩ := hcol.box
    have hc := hv.cell
    obtain ⟨d, c9, rfl⟩ : ∃ d c9, v = .slice d (expZ (keptZ l)).length c9 := row_slice hrow
    have HROW := hiddenN hrow
    have HCOL := hiddenN hcol
    clear hcol hrow hnil
    gi_wp2
    go_wp2
    refine ⟨by simp, .inl ⟨_, _, rfl, run_takeDeferred hK, ?_⟩⟩
    refine ⟨_, results_tmp2 rfl _ _ _, ?_⟩
    rw [← HRE.out]
    exact ⟨d, c9, by rw [HE.out]; rfl, ownsRow_putObj HROW.out _ hK rfl, HCOL.out.below.trans (belowK_b (w := w) (Nat.le_refl _) W D _ _ (by omega) hK rfl rfl)⟩
  case stop =>
    rintro D c' pre W _ _ h _
    exact h.elim
theorem expandZ_any (l : List Lp) (m : Bool) (a : Option Addr) (c : Nat) (w : World) (hN : Nst (· < w.heap.size) m w a l) (hs : sizZ l ≤ 1000000) : Calls Try.prog 26 #[.slice a l.length c] w (ExpE l w) := by
  by_cases he : chkZ l = 0
  · exact expandZ_good l m a c w hN hs he
  · exact expandZ_bad l m a c w hN hs he
theorem rangeZ {g : Operand} (t1 : Nat) {t2 : Nat} {assign body : Code} {Q : Exit → Act → World → Prop} {a : Act} {w : World} {gf : Nat} {lb : Array Value} (hg : a.eval g = .func (.func gf) #[] lb) (eg : ∀ args w, (callFunc gf args).run Try.prog w = .ok (.enter gf args) w)
    {Kp : World → World → Prop} {S Sp : List Int → Prop} {N : Nat} (hseq : SeqStopsK Fence.wide (9 - 1) Try.prog gf lb (fun x : Int => #[Value.int .i64 x]) Kp S Sp N w)
    (hKt : ∀ {A B C : World}, Kp A B → Kp B C → Kp A C) (hKb : ∀ (W : World) (l : Nat) (o o' : Obj), w.heap.size ≤ l → W.heap[l]? = some o → o.isCells = false → o.isWalk = false → Kp W (W.putObj l o'))
    (I : List Int → World → Prop) (Ix : Code → List Int → World → Prop) (hI : OwnFrom w.heap.size I) (hIx : ∀ c, OwnFrom w.heap.size (Ix c)) (h0 : I [] w)
    (hassign : ∀ (l : Nat) (x : Int) (W : World) (K : Act → World → Prop), K { tmps := (a.tmps.setIfInBounds t2 (.int .i64 x)).setIfInBounds t1 (.int .i64 x), defers := [] } W →
      assign.wpIn (Fence.wide.inRound l) (9 - 1 - 1) Try.prog (Exit.then K (fun _ _ _ => False)) { tmps := a.tmps.setIfInBounds t2 (.int .i64 x), defers := [] } W)
    (hbody : ∀ (l : Nat) (pre : List Int) (x : Int) (W : World), I pre W → pre.length < N → body.wpIn (Fence.wide.inRound l) (9 - 1 - 1) Try.prog (ownPostG w.heap.size Kp I Ix (pre ++ [x]) W) { tmps := (a.tmps.setIfInBounds t2 (.int .i64 x)).setIfInBounds t1 (.int .i64 x), defers := [] } W)
    (hdone : ∀ (D : Nat) (xs : List Int) (W : World), w.heap.size ≤ D → S xs → I xs W → W.heap[D]? = some (.deferred (some [])) → Q .normal { a with defers := { target := .collected D, args := #[] } :: a.defers } W)
    (hstop : ∀ (D : Nat) (c : Code) (pre : List Int) (W : World), w.heap.size ≤ D → Sp pre → Ix c pre W → W.heap[D]? = some (.deferred (some [])) → c.wp Try.prog Q { a with defers := { target := .collected D, args := #[] } :: a.defers } W) :
    (Code.rangeFunc g #[t2] assign body).wp Try.prog Q a w := by
  refine (wpIn_wide (n := 9)).1 ?_
  exact wpIn_rangeFunc_ownG (F := Fence.wide) rfl (by decide) hg trivial eg hseq (fun h k => hKt h k) hKb (Below.refl _ _) (fun _ => rfl) I Ix hI hIx h0 (fun x => { tmps := (a.tmps.setIfInBounds t2 (.int .i64 x)).setIfInBounds t1 (.int .i64 x), defers := [] }) (fun l x W K hK => by simpa using hassign l x W K hK) hbody hdone (fun D c pre W h1 h2 h3 h4 => wpIn_wide.2 (hstop D c pre W h1 h2 h3 h4))
end Go.Proofs.Ytmeogapffdgjlaa
namespace Go.Proofs.Ytmeogapffdgjlaa
open Go.ChangeShapes Go.WideShapes Go.ChangeAt Go.RowKit
theorem Try.infoLs : (Try.prog.info? 22).map (fun i => (i.zero, i.size, i.bytes)) = some (some (.slice none 0 0), 1, 24) := by kernel_rfl
def valR (r : RwL) : Value := .slice r.a r.Z.length r.c
theorem rel_few : ∀ (l : List Lp) (S : List Lv) (Rs : List RwL), RelR l S Rs → Rs.length ≤ sizZ l := by
  refine nest_one (fun S Rs h => by rw [(rel_nil.1 h).2]; exact Nat.zero_le _) fun x r hb hr S Rs h => ?_
  obtain ⟨s, S', R1, R2, -, rfl, -, -, -, h2, h3⟩ := rel_cons.1 h
  rw [siz_cons, List.length_append]
  have := hr _ _ h2
  rcases h3 with ⟨-, rfl⟩ | ⟨-, S0, R0, rfl, -, h4⟩
  · rw [List.length_nil]; omega
  · have := hb _ _ h4
    rw [List.length_append, List.length_singleton]
    omega
def LstE (Bq : Nat) (vs : List Value) (w : World) (e : Ending) (w' : World) : Prop := ∃ d c, e = .returned (.slice d vs.length c) ∧ w'.ownsRow Bq 22 1 (.slice d vs.length c) vs.length vs ∧ Below Bq w w'
def LstOK (l : List Lp) : Prop := ∀ (S : List Lv) (Rs : List RwL) (B Bq : Nat) (a : Option Addr) (c : Nat) (d : Option Addr) (cc : Nat) (vs : List Value) (w : World), CapZ B w a c S → RelR l S Rs → (∀ r ∈ Rs, CapZ B w r.a r.c r.Z) → (∀ x, a = some x → x.block < Bq) → (∀ r ∈ Rs, ∀ x, r.a = some x → x.block < Bq) → w.ownsRow Bq 22 1 (.slice d vs.length cc) vs.length vs → Bq ≤ w.heap.size → vs.length + sizZ l + 1 ≤ 1000000 → Calls Try.prog 42 #[.slice a l.length c, .slice d vs.length cc] w (LstE Bq (vs ++ (Rs ++ [(⟨a, c, S⟩ : RwL)]).map valR) w)
theorem wpList_appLs {w : World} {ops : Array Oper} {rest : List Oper} {o : Oper} {act : Act} {Q : Exit → Act → World → Prop} (hgd : o.guard = none) (s x : Operand) (ho : o.op = .call { callee := .builtin .append, args := #[s, x], argTypes := #[70, 70] })
    (Bq : Nat) (d : Option Addr) (c : Nat) (vs : List Value) (n : Nat) (hn : vs.length = n) (hs : act.eval s = .slice d n c) (hown : w.ownsRow Bq 22 1 (.slice d vs.length c) vs.length vs) (g : Nat) (a : Option Addr) (k cc : Nat) (hx : act.eval x = .slice (some ⟨g, 0, none⟩) 1 1) (hc : w.cell? ⟨g, 0, none⟩ = some (.slice a k cc)) (hb : n ≤ 1000000) (hB : Bq ≤ w.heap.size)
    (h : ∀ d' c' w', w'.ownsRow Bq 22 1 (.slice d' (n + 1) c') (n + 1) (vs ++ [.slice a k cc]) → Below Bq w w' → wpList Try.prog ops Q rest (act.put o.dst (.slice d' (n + 1) c')) w') : wpList Try.prog ops Q (o :: rest) act w := by
  subst hn
  obtain ⟨i0, hi, hz0, hz1, hz2⟩ := info_parts Try.infoLs
  refine wpList_append_own _ hgd s x 70 ho Bq 22 i0 (.slice none 0 0) 1 24 Try.underlying70 hi hz0 hz1 hz2 rfl (by decide) _ vs.length vs hs hown ⟨g, 0, none⟩ 1 1 [.slice a k cc] hx rfl (fun j u hu => by
    match j, hu with
    | 0, hu =>
      simp at hu
      subst hu
      simpa [Addr.add] using hc) (fun u hu => by simp at hu; subst hu; rfl) (by unfold maxLen; omega) (by omega) hB ?_
  intro v' w1 hown1 hgrow _
  obtain ⟨d', c', rfl⟩ := row_slice hown1
  refine h d' c' w1 hown1 ((Below.refl _ _).grown hgrow hB (fun j hj => ?_))
  cases d with
  | none => cases hj
  | some y =>
    rcases hown.2 with ⟨e1, -⟩ | ⟨g1, cap, cur, e1, hg1, -⟩
    · cases e1
    · cases e1; cases hj; exact hg1
set_option maxRecDepth 100000 in
set_option maxHeartbeats 16000000 in
theorem listsZ_any (l : List Lp) : LstOK l := by
  refine nest_ind (fun l ih => ?_) l
  intro S Rs B Bq a c d cc vs w hC hR hO ha hl hV hBq hs
  obtain ⟨RE, hRE⟩ : ∃ Q : Ending → World → Prop, LstE Bq (vs ++ (Rs ++ [(⟨a, c, S⟩ : RwL)]).map valR) w = Q := ⟨_, rfl⟩
  rw [hRE]
  have HRE := hiddenN hRE
  have IH := hiddenN ih
  have HC := hiddenN hC
  have HO := hiddenN hO
  have HA := hiddenN ha
  have HLT := hiddenN hl
  have HV := hiddenN hV
  have HSZ := hiddenN hs
  have HFW := hiddenN (rel_few l S Rs hR)
  have HSL := hiddenN (rel_len hR)
  have HR := hiddenN hR
  obtain ⟨L, hL⟩ : ∃ L, l.length = L := ⟨_, rfl⟩
  have HL := hiddenN hL
  have hLm : L ≤ 1000000 := by have := len_siz l; omega
  have hLI : (L : Int) ≤ 1000000 := by omega
  obtain ⟨nv, hnv⟩ : ∃ q, vs.length = q := ⟨_, rfl⟩
  have HNV := hiddenN hnv
  rw [hL, hnv]
  clear hRE ih hC hR hO ha hl hV hs hL hnv
  go_enter Try.func42, Try.ntmps42
  go_upto_region 2 with fail
  go_loopg [1, 5] L (fun gk av iv wr => ∃ (rest : List Lp) (k : Nat) (S1 S2 : List Lv) (R1 R2 : List RwL) (d : Option Addr) (n cc : Nat), S = S1 ++ S2 ∧ Rs = R1 ++ R2 ∧ S1.length = k ∧ gk = rest.length ∧ (∀ x ∈ rest, x ∈ l) ∧ k + rest.length = L ∧ R1.length + sizZ rest ≤ sizZ l ∧ RelR rest S2 R2 ∧ iv = .int .i64 (k : Int) ∧ av = .slice d n cc ∧ (vs ++ R1.map valR).length = n ∧ wr.ownsRow Bq 22 1 (.slice d (vs ++ R1.map valR).length cc) (vs ++ R1.map valR).length (vs ++ R1.map valR) ∧ Below Bq w wr)
  case atStart => exact ⟨l, 0, [], S, [], Rs, d, nv, cc, rfl, rfl, rfl, HL.out.symm, fun _ h => h, by rw [HL.out, Nat.zero_add], by rw [List.length_nil]; omega, HR.out, rfl, rfl, by rw [List.map_nil, List.append_nil]; exact HNV.out, by rw [List.map_nil, List.append_nil]; exact HV.out, Below.refl _ _⟩
  case round =>
    obtain ⟨rest, k, S1, S2, R1, R2, d, n, cc, hS, hRs, hk, hgk, hmem, hkL, hsz, hRl, rfl, rfl, hn, hV, hb⟩ := hrel
    subst hgk
    have HS := hiddenN hS
    have HRs := hiddenN hRs
    have HK := hiddenN hk
    have HME := hiddenN hmem
    have HKL := hiddenN hkL
    have HRl := hiddenN hRl
    have HN := hiddenN hn
    have HV2 := hiddenN hV
    have HB := hiddenN hb
    have CW9 := hiddenN (HC.out.keep fun x hx => hb.block _ (HA.out x hx))
    have hn6 : n ≤ 1000000 := by
      have q2 := HSZ.out
      rw [← hn, List.length_append, List.length_map]
      omega
    have HZ9 := hiddenN hsz
    clear hS hRs hk hmem hRl hn hV hb hsz
    cases rest with
    | nil =>
      have hki : ¬ ((k : Int) < (L : Int)) := by rw [← HKL.out]; simp
      obtain ⟨e1, e2⟩ := rel_nil.1 HRl.out
      subst e1 e2
      have eS : S1.length = S.length := by rw [HS.out, List.append_nil]
      have hkl : L = k := by rw [← HKL.out]; simp
      have bA := (Below.refl wr.heap.size wr).alloc (Nat.le_refl _) (.cells #[.slice a L c] 22)
      have XA := blkA_new 22 wr #[.slice a L c]
      have u0 := XA.cell (k := 0) rfl
      simp only [List.getElem_toArray, List.getElem_cons_zero] at u0
      have VA := hiddenN (World.ownsRow.alloc HV2.out (.cells #[.slice a L c] 22))
      have hBA : Bq ≤ (wr.alloc (.cells #[.slice a L c] 22)).heap.size := Nat.le_trans (Nat.le_trans hBq HB.out.size) bA.size
      have BA := hiddenN bA
      clear bA XA
      clear hkl eS
      go_wp2_with (at_builtin; refine wpList_appLs rfl _ _ rfl Bq d cc (vs ++ R1.map valR) n HN.out rfl VA.out wr.heap.size a L c rfl u0 hn6 hBA ?_; intro d2 c2 W2 hv b; have V2 := hiddenN hv; have B2 := hiddenN b; clear hv b)
      rw [← HRE.out]
      have e3 : vs ++ (Rs ++ [(⟨a, c, S⟩ : RwL)]).map valR = (vs ++ R1.map valR) ++ [.slice a L c] := by
        rw [HRs.out, List.append_nil, List.map_append, ← List.append_assoc]
        congr 1
        show [Value.slice a S.length c] = _
        rw [HSL.out, HL.out]
      have e4 : (vs ++ (Rs ++ [(⟨a, c, S⟩ : RwL)]).map valR).length = n + 1 := by rw [e3, List.length_append, HN.out]; rfl
      refine ⟨d2, c2, by rw [e4], ?_, (HB.out.trans ((BA.out.mono (Nat.le_trans hBq HB.out.size)).trans B2.out))⟩
      rw [e4, e3]
      exact V2.out
    | cons x r =>
      have hki : (k : Int) < (L : Int) := by rw [← HKL.out]; simp; omega
      have hkL2 : k < L := by rw [← HKL.out]; simp
      have hkm : (k : Int) ≤ 1000000 := by omega
      obtain ⟨s, S', Q1, Q2, e1, e2, h1, h2, h3, h4, h5⟩ := rel_cons.1 HRl.out
      subst e1 e2
      have hS0 : S ≠ [] := fun e => by have := HS.out; rw [e] at this; have := congrArg List.length this; simp at this
      obtain ⟨g, rfl⟩ := CW9.out.there hS0
      have hkS : k < S.length := by rw [HSL.out, HL.out]; exact hkL2
      have q2 := CW9.out.cell (k := k) (j := 2) hkS (by decide)
      have eN : nthZ S k = s := by
        unfold nthZ
        rw [HS.out, List.getD_eq_getElem?_getD, ← HK.out, List.getElem?_append_right (Nat.le_refl _), Nat.sub_self]
        rfl
      rw [eN, show celZ s 2 = .slice s.a s.k s.c from rfl, h3] at q2
      have HMX := hiddenN (HME.out x (List.mem_cons_self ..))
      have HSX := siz_mem HMX.out
      obtain ⟨L1, hL1⟩ : ∃ q, x.body.length = q := ⟨_, rfl⟩
      obtain ⟨sa, hsa⟩ : ∃ q, s.a = q := ⟨_, rfl⟩
      obtain ⟨sc, hsc⟩ : ∃ q, s.c = q := ⟨_, rfl⟩
      rw [hL1, hsa, hsc] at q2
      have NX : Hid (∀ y ∈ r, y ∈ l) := fun y hy => HME.out y (List.mem_cons_of_mem _ hy)
      have HH4 := hiddenN h4
      have KN : Hid (k + 1 + r.length = L) := by show _ = _; have := HKL.out; rw [List.length_cons] at this; omega
      have ES : Hid (S = (S1 ++ [s]) ++ S') := by show _ = _; rw [HS.out, List.append_assoc]; rfl
      by_cases hz : L1 = 0
      · subst hz
        have hbd : x.body = [] := List.eq_nil_of_length_eq_zero hL1
        have eQ : Q1 = [] := by
          rcases h5 with ⟨-, q⟩ | ⟨q, -⟩
          · exact q
          · exact absurd hbd q
        subst eQ
        clear h1 h2 h3 h4 h5 hbd eN hkS hS0 hL1 hsa hsc HSX
        go_wp2
        go_roundg r.length
        case measure => simp
        case rel => exact ⟨r, k + 1, S1 ++ [s], S', R1, Q2, d, n, cc, ES.out, by rw [HRs.out]; rfl, by rw [List.length_append, HK.out]; rfl, rfl, NX.out, KN.out, by have := HZ9.out; rw [siz_cons] at this; omega, HH4.out, by go_num, rfl, HN.out, HV2.out, HB.out⟩
      · have hzI : (L1 : Int) > 0 := by omega
        have hbd : x.body ≠ [] := fun e => hz (by rw [← hL1, e]; rfl)
        rcases h5 with ⟨q, -⟩ | ⟨-, S0, R0, eQ, eL, hR0⟩
        · exact absurd q hbd
        subst eQ
        have hin : ∀ r9 ∈ R0 ++ [⟨s.a, s.c, S0⟩], r9 ∈ Rs := fun r9 h9 => by rw [HRs.out]; exact List.mem_append_right _ (List.mem_append_left _ h9)
        have htop : (⟨s.a, s.c, S0⟩ : RwL) ∈ Rs := hin _ (List.mem_append_right _ (List.mem_cons_self ..))
        have hbl : ∀ r9 ∈ Rs, CapZ B wr r9.a r9.c r9.Z := fun r9 h9 => (HO.out r9 h9).keep fun y hy => HB.out.block _ (HLT.out r9 h9 y hy)
        have LX := hiddenN (IH.out x HMX.out S0 R0 B Bq s.a s.c d cc (vs ++ R1.map valR) wr (hbl _ htop) hR0 (fun r9 h9 => hbl r9 (hin r9 (List.mem_append_left _ h9))) (HLT.out _ htop) (fun r9 h9 => HLT.out r9 (hin r9 (List.mem_append_left _ h9))) HV2.out (Nat.le_trans hBq HB.out.size) (by
          have q3 := HSZ.out
          have q4 := HN.out
          have q5 := HZ9.out
          rw [siz_cons] at q5
          rw [List.length_append, List.length_map] at q4 ⊢
          omega))
        have hcnt : (R1 ++ (R0 ++ [(⟨s.a, s.c, S0⟩ : RwL)])).length + sizZ r ≤ sizZ l := by
          have q5 := HZ9.out
          have q6 := rel_few _ _ _ hR0
          rw [siz_cons] at q5
          rw [List.length_append, List.length_append, List.length_singleton]
          omega
        have HCN := hiddenN hcnt
        have eV : (vs ++ R1.map valR) ++ (R0 ++ [(⟨s.a, s.c, S0⟩ : RwL)]).map valR = vs ++ (R1 ++ (R0 ++ [(⟨s.a, s.c, S0⟩ : RwL)])).map valR := by rw [List.map_append (l₁ := R1), List.append_assoc]
        rw [eV] at LX
        have ER : Hid (Rs = (R1 ++ (R0 ++ [(⟨s.a, s.c, S0⟩ : RwL)])) ++ Q2) := by show _ = _; rw [HRs.out]; simp only [List.append_assoc]
        generalize R1 ++ (R0 ++ [(⟨s.a, s.c, S0⟩ : RwL)]) = RN at *
        unfold LstE at LX
        obtain ⟨nn, hnn⟩ : ∃ q, (vs ++ RN.map valR).length = q := ⟨_, rfl⟩
        rw [hnn, HN.out, hL1, hsa, hsc] at LX
        have HNN := hiddenN hnn
        clear h1 h2 h3 h4 hR0 hin htop hbl eL hbd eN hkS hS0 hL1 hsa hsc HSX hcnt eV hnn
        go_wp2_with (go_at_call 42; (with_reducible refine LX.out.mono ?_); rintro e W2 ⟨d2, c2, rfl, hv, b⟩; have V2 := hiddenN hv; have B2 := hiddenN (HB.out.trans b); clear hv b)
        go_roundg r.length
        case measure => simp
        case rel => exact ⟨r, k + 1, S1 ++ [s], S', RN, Q2, d2, nn, c2, ES.out, ER.out, by rw [List.length_append, HK.out]; rfl, rfl, NX.out, KN.out, HCN.out, HH4.out, by go_num, rfl, HNN.out, by rw [HNN.out]; exact V2.out, B2.out⟩
end Go.Proofs.Ytmeogapffdgjlaa

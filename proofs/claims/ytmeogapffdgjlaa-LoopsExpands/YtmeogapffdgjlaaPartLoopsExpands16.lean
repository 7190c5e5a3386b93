/- Texts of one chain, laid one behind the other. -/
import Derived.Test.YtmeogapffdgjlaaPartLoopsExpands15
import Derived.Maps.AppendAt
namespace Go.Proofs.Ytmeogapffdgjlaa
open Go.ChangeShapes Go.WideShapes Go.ChangeAt Go.RowKit Go.Shelf
attribute [local go_sem] Oper.semAt_some
/-- The nest that All keeps. -/
def keptZ (l : List Lp) : List Lp := if chkZ l = 0 then l else []
theorem kept_pos (l : List Lp) : posZ (keptZ l) := by
  unfold keptZ
  split
  · rename_i h; exact err_pos _ _ _ (chk_zero h).1
  · exact pos_nil
theorem kept_tot (l : List Lp) : totZ (keptZ l) ≤ 2048 := by
  unfold keptZ
  split
  · rename_i h; exact (chk_zero h).2
  · rw [tot_nil]; omega
theorem kept_siz (l : List Lp) : sizZ (keptZ l) ≤ sizZ l := by
  unfold keptZ
  split
  · exact Nat.le_refl _
  · rw [siz_nil]; omega
/-- What All answers: a function value over a box that holds a copy. -/
structure AllZ (B : Nat) (w : World) (kb : Nat) (l : List Lp) : Prop where
  lo : B ≤ kb
  box : ∃ (q : Option Addr) (c : Nat), BlkA 22 kb w #[.slice q (keptZ l).length c] ∧ Nst (fun k => B ≤ k ∧ TyZ w k) false w q (keptZ l)
theorem AllZ.later {B : Nat} {w w' : World} {kb : Nat} {l : List Lp} (h : AllZ B w kb l) (hb : Below w.heap.size w w') : AllZ B w' kb l := by
  obtain ⟨h1, q, c, h2, h3⟩ := h
  exact ⟨h1, q, c, h2.below hb, (h3.keep fun k hk => hb.block k hk.2.lt).mono fun k hk => ⟨hk.1, hk.2.keep (hb.block k hk.2.lt)⟩⟩
set_option maxRecDepth 100000 in
set_option maxHeartbeats 4000000 in
theorem allZ_any (l : List Lp) (m : Bool) (a : Option Addr) (c : Nat) (w : World) (hN : Nst (· < w.heap.size) m w a l) (hs : sizZ l ≤ 1000000) :
    Calls Try.prog 13 #[.slice a l.length c] w fun e w' => ∃ kb, e = .returned (.func (.func 40) #[] #[.pointer (some ⟨kb, 0, none⟩)]) ∧ AllZ w.heap.size w' kb l ∧ Below w.heap.size w w' := by
  have b0 := (Below.refl w.heap.size w).alloc (Nat.le_refl _) (.cells #[.slice none 0 0] 22)
  have hsz : (w.alloc (.cells #[.slice none 0 0] 22)).heap.size = w.heap.size + 1 := World.size_alloc _ _
  have CK := hiddenN (checkZ_any l m a c _ ((hN.below b0).mono (G := (· < (w.alloc (.cells #[.slice none 0 0] 22)).heap.size)) (fun k hk => by show k < _; rw [hsz]; exact Nat.lt_succ_of_lt hk)) hs)
  have CO : Hid (∀ u, Below w.heap.size w u → Calls Try.prog 39 #[.slice a l.length c] u fun e w' => ∃ q, e = .returned (.slice (some ⟨q, 0, none⟩) l.length l.length) ∧ CpdZ u.heap.size w' q l ∧ Below u.heap.size u w') := fun u hu => copiedZ_any l w.heap.size m a c u (hN.below hu) hu.size hs
  have X0 := hiddenN (blkA_new 22 w #[.slice none 0 0])
  have B0 := hiddenN b0
  clear b0 hN hs hsz
  obtain ⟨L, hL⟩ : ∃ q, l.length = q := ⟨_, rfl⟩
  rw [hL] at CK CO ⊢
  have HL := hiddenN hL
  clear hL
  by_cases he : chkZ l = 0
  · rw [he] at CK
    go_enter Try.func13, Try.ntmps13
    go_upto_region 2 with fail
    generalize w.alloc (.cells #[.slice none 0 0] 22) = W0 at *
    have HE := hiddenN he
    clear he
    go_upto_region 3 with (go_at_call 25; (with_reducible refine CK.out.mono ?_); rintro e W1 ⟨rfl, b1⟩; have X1 := hiddenN (X0.out.below b1); have B1 := hiddenN (B0.out.trans (b1.mono B0.out.size)); clear b1)
    go_upto_region 4 with (go_at_call 39; (with_reducible refine (CO.out W1 B1.out).mono ?_); rintro e W2 ⟨q, rfl, hc, b2⟩; have X2 := hiddenN (X1.out.below b2); have HB1 := hiddenN B1.out.size; have B2 := hiddenN (B1.out.trans (b2.mono B1.out.size)); have HC := hiddenN hc; have z0 := X2.out.cell (k := 0) rfl; have f0 := X2.out.frozen 0; simp only [List.getElem_toArray, List.getElem_cons_zero] at z0; clear b2 hc)
    have X3 := hiddenN (X2.out.set 0 (.slice (some ⟨q, 0, none⟩) L L))
    have b3 := But.set W2 w.heap.size 0 (.slice (some ⟨q, 0, none⟩) L L)
    have B3 := hiddenN (B2.out.trans (b3.below (Nat.le_refl _) B2.out.size))
    have hwW : w.heap.size < W1.heap.size := X1.out.lt
    have HN : Hid (Nst (fun k => w.heap.size ≤ k ∧ TyZ (W2.setCell ⟨w.heap.size, 0, none⟩ (.slice (some ⟨q, 0, none⟩) L L)) k) false (W2.setCell ⟨w.heap.size, 0, none⟩ (.slice (some ⟨q, 0, none⟩) L L)) (some ⟨q, 0, none⟩) l) := by
      have hk : ∀ k, (W1.heap.size ≤ k ∧ TyZ W2 k) → (W2.setCell ⟨w.heap.size, 0, none⟩ (.slice (some ⟨q, 0, none⟩) L L)).heap[k]? = W2.heap[k]? := fun k hk => b3.block k hk.2.lt (by omega)
      refine .inr ⟨q, 0, rfl, ?_⟩
      exact NstR.mono (fun k hk2 => ⟨by omega, hk2.2.keep (hk k hk2)⟩) _ _ _ (NstR.keep hk _ _ _ HC.out.nst)
    clear b3 z0 f0 hwW
    generalize W2.setCell ⟨w.heap.size, 0, none⟩ (.slice (some ⟨q, 0, none⟩) L L) = W3 at *
    go_wp2
    go_ret
    have ek : keptZ l = l := by unfold keptZ; rw [if_pos HE.out]
    exact ⟨_, rfl, ⟨Nat.le_refl _, some ⟨q, 0, none⟩, L, by rw [ek, HL.out]; exact X3.out, by rw [ek]; exact HN.out⟩, B3.out⟩
  · obtain ⟨E, hE⟩ : ∃ q, chkZ l = q := ⟨_, rfl⟩
    rw [hE] at CK he
    have hb : ((E : Int) == 0) = false := by simpa using he
    have ek : Hid (keptZ l = []) := by show _ = _; unfold keptZ; rw [hE, if_neg he]
    clear hE he
    go_enter Try.func13, Try.ntmps13
    go_upto_region 2 with fail
    generalize w.alloc (.cells #[.slice none 0 0] 22) = W0 at *
    go_wp2_with (go_at_call 25; (with_reducible refine CK.out.mono ?_); rintro e W1 ⟨rfl, b1⟩; have X1 := hiddenN (X0.out.below b1); have B1 := hiddenN (B0.out.trans (b1.mono B0.out.size)); clear b1)
    go_ret
    exact ⟨_, rfl, ⟨Nat.le_refl _, none, 0, by rw [ek.out]; exact X1.out, .inl ek.out⟩, B1.out⟩
set_option maxRecDepth 100000 in
set_option maxHeartbeats 4000000 in
theorem allOneZ_any (l : List Lp) (l0 : Nat) (F : Nat → Prop) (J Jx : List Int → World → Prop) (hJ : NewZ J) (hY : YldZ l0 F (totZ l) J Jx) (hT : totZ l ≤ 1000000) (hs : sizZ l ≤ 1000000) (hp : posZ l) (kb : Nat) (q : Option Addr) (c : Nat) (W : World) (hB : BlkA 22 kb W #[.slice q l.length c]) (hN : Nst F false W q l) (hF : ∀ k, F k → k < W.heap.size) (h0 : J [] W) :
    Calls Try.prog 40 #[.func (.yield l0) #[] #[], .pointer (some ⟨kb, 0, none⟩)] W fun e W' => (∃ v, e = .returned v) ∧ ((∃ xs, xs = expZ l ∧ J xs W') ∨ (∃ pre, pre <+: expZ l ∧ Jx pre W')) := by
  have TE := hiddenN (tellZ_any l l0 F (totZ l) J Jx hJ hY hT false q c [] W hN hF hs hp h0 (by simp))
  unfold TelE at TE
  have y0 := hB.cell (k := 0) rfl
  simp only [List.getElem_toArray, List.getElem_cons_zero] at y0
  generalize l.length = L at *
  clear hN h0 hB
  go_enter Try.func40, Try.ntmps40
  go_wp2_with (go_at_call 41; (with_reducible refine TE.out.mono ?_); rintro e W1 (⟨rfl, hj, -⟩ | ⟨rfl, p, hq, hx⟩))
  · go_end0
    exact ⟨⟨_, rfl⟩, .inl ⟨_, rfl, by simpa using hj⟩⟩
  · go_end0
    exact ⟨⟨_, rfl⟩, .inr ⟨p, hq, by simpa using hx⟩⟩
theorem grown_below {W W' : World} (h : Below W.heap.size W W') : W.grownBy W' none := ⟨h.os, h.tape, h.output, h.size, fun k hk _ => h.block k hk⟩
theorem abides_new {B : Nat} {J : List Int → World → Prop} (h : AbidesFrom B J) : NewZ J := fun pre W W' hj hb => h pre W W' none hj (grown_below hb) (fun r e => by cases e)
/-- What All answers, as something to range over. -/
theorem allZ_stops (n B : Nat) (w : World) (kb : Nat) (l : List Lp) (h : AllZ B w kb l) (hs : sizZ l ≤ 1000000) :
    SeqStopsK Fence.wide n Try.prog 40 #[.pointer (some ⟨kb, 0, none⟩)] (fun x : Int => #[Value.int .i64 x]) (KpZ (TyZ w)) (fun ys => ys = expZ (keptZ l)) (fun pre => pre <+: expZ (keptZ l)) (totZ (keptZ l)) w := fun l0 J Jx W hW hJ _ hY h0 => by
  obtain ⟨h1, q, c, h2, h3⟩ := h
  exact callsIn_wide.2 (allOneZ_any (keptZ l) l0 (TyZ w) J Jx (abides_new hJ) (fun m pre x W1 hj hl => YieldAt.anyZ m (hY pre x W1 hj hl)) (by have := kept_tot l; omega) (Nat.le_trans (kept_siz l) hs) (kept_pos l) kb q c W (h2.below hW) ((h3.mono fun k hk => hk.2).keep fun k hk => hW.block k hk.lt) (fun k hk => Nat.lt_of_lt_of_le hk.lt hW.size) h0)
theorem kpZ_b {w : World} (W : World) (l : Nat) (o o' : Obj) (hl : w.heap.size ≤ l) (h : W.heap[l]? = some o) (hc : o.isCells = false) (_ : o.isWalk = false) : KpZ (TyZ w) W (W.putObj l o') := by
  have hg := grownBy_putObj' W l o'
  refine ⟨⟨hg.size, fun k hk => ?_⟩, fun k cs hk => ?_⟩
  · by_cases e : k < W.heap.size
    · exact hg.block k e (fun q => by cases q; have := hk.lt; omega)
    · have h1 := hk.lt
      have h2 := (Array.getElem?_eq_some_iff.1 h).1
      omega
  · refine hk.keep (hg.block k hk.lt (fun q => ?_))
    cases q
    rw [show W.heap[l]? = _ from hk] at h
    cases h
    cases hc
/-- A box that holds a row of numbers of a call's own, while they are collected. -/
structure ColZ (B : Nat) (w0 W0 : World) (lb : Nat) (pre : List Int) (W : World) : Prop where
  box : ∃ v, Boxed W lb 26 v ∧ W.ownsRow B 3 1 v pre.length (pre.map (Value.int .i64)) ∧ (v = .slice none 0 0 → pre = [])
  below : Below B w0 W
  keeps : KpZ (TyZ W0) W0 W
theorem ColZ.own {B : Nat} {w0 W0 : World} {lb : Nat} (hB : B ≤ W0.heap.size) (hw : B ≤ w0.heap.size) : OwnFrom W0.heap.size (ColZ B w0 W0 lb) := by
  intro s W W' row h hg hr
  obtain ⟨h1, h2, h3⟩ := h
  refine ⟨holdsRow_own B lb 26 3 1 (fun pre : List Int => pre.length) (fun pre => pre.map (Value.int .i64)) (fun pre v => v = .slice none 0 0 → pre = []) s W W' row h1 hg (fun r e => (hr r e).2), ?_, ?_⟩
  · exact h2.grown hg (Nat.le_trans hw h2.size) (fun k e => Nat.le_trans hB (hr k e).1)
  · refine h3.trans ⟨⟨hg.size, fun k hk => ?_⟩, fun k cs hk => ?_⟩
    · obtain ⟨cs, hk⟩ := hk
      have := h3.2 k cs hk
      refine hg.block k this.lt (fun e => ?_)
      obtain ⟨-, o, ho, hc⟩ := hr k e.symm
      rw [show W.heap[k]? = _ from this] at ho
      cases ho; cases hc
    · refine hk.keep (hg.block k hk.lt (fun e => ?_))
      obtain ⟨-, o, ho, hc⟩ := hr k e.symm
      rw [show W.heap[k]? = _ from hk] at ho
      cases ho; cases hc
/-- One more number. -/
theorem ColZ.step {B : Nat} {w0 W0 W w1 : World} {lb : Nat} {pre : List Int} {x : Int} {v v' : Value} {tmp : Obj} (h : ColZ B w0 W0 lb pre W) (hv : Boxed W lb 26 v) (hrow : W.ownsRow B 3 1 v pre.length (pre.map (Value.int .i64))) (hlb : B ≤ lb) (hBW : B ≤ W.heap.size) (hv' : v' ≠ .slice none 0 0)
    (hown' : w1.ownsRow B 3 1 v' (pre.length + 1) (pre.map (Value.int .i64) ++ [.int .i64 x])) (hgrow : (W.alloc tmp).grownBy w1 v.ownBlock) :
    Boxed w1 lb 26 v ∧ KeepsFrom W0.heap.size W (w1.setCell ⟨lb, 0, none⟩ v') ∧ KpZ (TyZ W0) W (w1.setCell ⟨lb, 0, none⟩ v') ∧ ColZ B w0 W0 lb (pre ++ [x]) (w1.setCell ⟨lb, 0, none⟩ v') := by
  obtain ⟨hv1, hv2, hr2, hk2, hb2⟩ := hv.appended (by decide) hrow hBW hlb hown' hgrow
  have hty : ∀ k cs, BlkA 57 k W cs → BlkA 57 k (w1.setCell ⟨lb, 0, none⟩ v') cs := fun k cs hk => by
    have a1 : BlkA 57 k (W.alloc tmp) cs := hk.below ((Below.refl _ _).alloc (Nat.le_refl _) tmp)
    have n1 : some k ≠ v.ownBlock := by
      rcases (hrow.alloc tmp).2 with ⟨rfl, _⟩ | ⟨g, cap, cur, rfl, _, hgb, _⟩
      · simp [Value.ownBlock]
      · intro e
        obtain rfl : k = g := by simpa [Value.ownBlock] using e
        have := (show (W.alloc tmp).heap[k]? = _ from a1).symm.trans hgb
        simp at this
    have a2 : BlkA 57 k w1 cs := a1.keep (hgrow.block k a1.lt n1)
    refine a2.keep (Below.heap_setCell _ _ _ _ ?_)
    intro e
    have e' : k = lb := e
    subst e'
    have := (show w1.heap[k]? = _ from a2).symm.trans hv1
    simp at this
  have hkp : KpZ (TyZ W0) W (w1.setCell ⟨lb, 0, none⟩ v') := by
    refine ⟨⟨hb2.size, fun k hk => ?_⟩, hty⟩
    obtain ⟨cs, hk⟩ := hk
    have q1 := h.keeps.2 k cs hk
    exact (show _ = _ from hty k cs q1).trans (show W.heap[k]? = _ from q1).symm
  refine ⟨hv1, hk2.from _, hkp, ⟨⟨v', hv2, ?_, fun e => absurd e hv'⟩, h.below.trans hb2, h.keeps.trans hkp⟩⟩
  simpa using hr2
attribute [local go_sem] Oper.semAt_some
def ExpE (l : List Lp) (w : World) (e : Ending) (w' : World) : Prop := ∃ (d : Option Addr) (c : Nat), e = .returned (.tuple #[.slice d (expZ (keptZ l)).length c, .int .i64 (chkZ l : Int)]) ∧ CapR w.heap.size w' d c (expZ (keptZ l)) ∧ Below w.heap.size w w'
theorem row_slice {w : World} {B e size n : Nat} {v : Value} {xs : List Value} (h : w.ownsRow B e size v n xs) : ∃ d c, v = .slice d n c := by
  rcases h.2 with ⟨hv, hn⟩ | ⟨g, cap, cur, hv, -⟩
  · exact ⟨none, 0, by rw [hv, hn]⟩
  · exact ⟨_, _, hv⟩
set_option maxRecDepth 100000 in
set_option maxHeartbeats 8000000 in
theorem expandZ_bad (l : List Lp) (m : Bool) (a : Option Addr) (c : Nat) (w : World) (hN : Nst (· < w.heap.size) m w a l) (hs : sizZ l ≤ 1000000) (he : chkZ l ≠ 0) :
    Calls Try.prog 26 #[.slice a l.length c] w (ExpE l w) := by
  have ME := hiddenN (measZ_any l m a c w hN hs)
  unfold sizV at ME
  rw [if_neg he] at ME
  obtain ⟨RE, hRE⟩ : ∃ Q, ExpE l w = Q := ⟨_, rfl⟩
  rw [hRE]
  have HRE := hiddenN hRE
  have ek : Hid (keptZ l = []) := by show _ = _; unfold keptZ; rw [if_neg he]
  obtain ⟨E, hE⟩ : ∃ q, chkZ l = q := ⟨_, rfl⟩
  rw [hE] at ME he
  have HE := hiddenN hE
  have hb : ((E : Int) != 0) = true := by simpa using he
  generalize l.length = L at *
  clear hRE hE hN he
  go_enter Try.func26, Try.ntmps26
  go_wp2_with (go_at_call 29; (with_reducible refine ME.out.mono ?_); rintro e W1 ⟨rfl, b1⟩; have B1 := hiddenN b1; clear b1)
  rw [← HRE.out]
  exact ⟨none, 0, by rw [ek.out, exp_nil, HE.out]; rfl, by rw [ek.out, exp_nil]; exact CapR.nil _ _, B1.out.alloc B1.out.size _⟩
set_option maxRecDepth 100000 in
set_option maxHeartbeats 8000000 in
theorem expandZ_good (l : List Lp) (m : Bool) (a : Option Addr) (c : Nat) (w : World) (hN : Nst (· < w.heap.size) m w a l) (hs : sizZ l ≤ 1000000) (he : chkZ l = 0) :
    Calls Try.prog 26 #[.slice a l.length c] w (ExpE l w) := by
  have ME := hiddenN (measZ_any l m a c w hN hs)
  unfold sizV at ME
  rw [if_pos he, he] at ME
  have ek : keptZ l = l := by unfold keptZ; rw [if_pos he]
  have AL : Hid (∀ u, Below w.heap.size w u → Calls Try.prog 13 #[.slice a l.length c] u fun e w' => ∃ kb, e = .returned (.func (.func 40) #[] #[.pointer (some ⟨kb, 0, none⟩)]) ∧ AllZ u.heap.size w' kb l ∧ Below u.heap.size u w') := fun u hu => allZ_any l m a c u ((hN.below hu).mono fun k hk => Nat.lt_of_lt_of_le hk hu.size) hs
  obtain ⟨RE, hRE⟩ : ∃ Q, ExpE l w = Q := ⟨_, rfl⟩
  rw [hRE]
  have HRE := hiddenN hRE
  have HE := hiddenN he
  have HEK := hiddenN ek
  have HS := hiddenN hs
  have hT := (chk_zero he).2
  obtain ⟨T, hTT⟩ : ∃ q, totZ l = q := ⟨_, rfl⟩
  rw [hTT] at ME hT
  have HTT := hiddenN hTT
  generalize (lvsZ l : Int) = v0 at *
  generalize (hdsZ l : Int) = v1 at *
  generalize (dpsZ 0 l : Int) = v2 at *
  obtain ⟨L, hL⟩ : ∃ q, l.length = q := ⟨_, rfl⟩
  rw [hL] at ME AL ⊢
  clear hRE hL hN he ek hTT
  obtain ⟨i0, hi, hz0, hz1, hz2⟩ := info_parts Try.info3
  refine (callsIn_wide (n := 9)).1 (callsIn_of_wp_marks Try.func26 rfl trivial ?_ rfl)
  simp only [Try.ntmps26, List.size_toArray, List.length_cons, List.length_nil, Nat.reduceAdd, Nat.reduceSub, Array.replicate_succ, Array.replicate_zero, List.push_toArray, List.append_toArray, List.nil_append, List.cons_append]
  refine wpIn_wide.2 ?_
  go_upto_region 2 with (go_at_call 29; (with_reducible refine ME.out.mono ?_); rintro e W1 ⟨rfl, b1⟩; have B1 := hiddenN b1; clear b1)
  have b2 := B1.out.alloc B1.out.size (.cells #[.int .i64 v0, .int .i64 v1, .int .i64 v2, .int .i64 (T : Int)] 47)
  have X2 := hiddenN (blkA_new 47 W1 #[.int .i64 v0, .int .i64 v1, .int .i64 v2, .int .i64 (T : Int)])
  have B2 := hiddenN b2
  obtain ⟨x1, hx1⟩ : ∃ q, W1.heap.size = q := ⟨_, rfl⟩
  rw [hx1] at X2 ⊢
  clear b2 hx1
  generalize W1.alloc (.cells #[.int .i64 v0, .int .i64 v1, .int .i64 v2, .int .i64 (T : Int)] 47) = W2 at *
  have y3 := X2.out.cell (k := 3) rfl
  simp only [List.getElem_toArray, List.getElem_cons_zero, List.getElem_cons_succ] at y3
  obtain ⟨W3, hr3, ho3, hg3⟩ := run_make_own (P := Try.prog) W2 w.heap.size 26 3 i0 (.int .i64 0) 1 Try.underlying26 hi hz0 hz1 .i64 .i64 T (by rw [hz2]; omega) (by unfold maxLen; omega) B2.out.size
  have B3 := hiddenN (B2.out.grown hg3 B2.out.size (fun k hk => by cases hk))
  have O3 := hiddenN ho3
  clear ho3 hg3
  go_upto_region 5 with fail
  clear hr3 y3
  obtain ⟨g, hg⟩ : ∃ q, W2.heap.size = q := ⟨_, rfl⟩
  rw [hg] at O3 ⊢
  clear hg
  have BX := hiddenN (Boxed.new W3 26 (.slice (some ⟨g, 0, none⟩) 0 T))
  have b4 := B3.out.alloc B3.out.size (.cells #[.slice (some ⟨g, 0, none⟩) 0 T] 26)
  have O4 := hiddenN (O3.out.alloc (.cells #[.slice (some ⟨g, 0, none⟩) 0 T] 26))
  have B4 := hiddenN b4
  have hlb : w.heap.size ≤ W3.heap.size := B3.out.size
  obtain ⟨lb, hlbE⟩ : ∃ q, W3.heap.size = q := ⟨_, rfl⟩
  rw [hlbE] at BX hlb ⊢
  clear b4 hlbE O3
  generalize W3.alloc (.cells #[.slice (some ⟨g, 0, none⟩) 0 T] 26) = W4 at *
  go_wp2_with (go_at_call 13; (with_reducible refine (AL.out W4 B4.out).mono ?_); rintro e W5 ⟨kb, rfl, ha, b5⟩; have HA := hiddenN ha; have BX5 := hiddenN (BX.out.kept (grown_below b5) (by simp)); have O5 := hiddenN (O4.out.kept (grown_below b5) (.inr (by simp [Value.ownBlock]))); have B5 := hiddenN (B4.out.trans (b5.mono B4.out.size)); clear b5 ha)
  have hB5 : w.heap.size ≤ W5.heap.size := B5.out.size
  have hTk : Hid (totZ (keptZ l) = T) := by show _ = _; rw [HEK.out, HTT.out]
  refine (wpIn_wide (n := 9)).1 ?_
  refine wpIn_rangeFunc_ownG (F := Fence.wide) rfl (by decide) (gf := 40) (lb := #[.pointer (some ⟨kb, 0, none⟩)]) rfl trivial (enters_of Try.func40 (by kernel_rfl) rfl)
    (allZ_stops (9 - 1) W4.heap.size W5 kb l HA.out HS.out) (fun h k => KpZ.trans h k) (kpZ_b (w := W5)) (Below.refl _ _) (fun _ => rfl)
    (fun pre W => ColZ w.heap.size w W5 lb pre W) (fun _ _ _ => False) (ColZ.own hB5 (Nat.le_refl _)) (fun _ _ _ _ _ hs _ _ => hs)
    ⟨⟨_, BX5.out, O5.out, fun e => by cases e⟩, B5.out, KpZ.refl _ _⟩
    (fun x => { tmps := #[.slice a L c, undef, .slice none 0 0, .int .i64 0, .pointer (some ⟨x1, 0, none⟩), .int .i64 0, .pointer (some ⟨lb, 0, none⟩), .int .i64 x, .tuple #[.agg #[.int .i64 v0, .int .i64 v1, .int .i64 v2, .int .i64 (T : Int)], .int .i64 0], .slice a L c, .tuple #[.agg #[.int .i64 v0, .int .i64 v1, .int .i64 v2, .int .i64 (T : Int)], .int .i64 0], .agg #[.int .i64 v0, .int .i64 v1, .int .i64 v2, .int .i64 (T : Int)], .int .i64 0, .int .i64 0, .bool false, undef, .pointer (some ⟨x1, 3, none⟩), .int .i64 (T : Int), .slice (some ⟨g, 0, none⟩) 0 T, .slice a L c, .func (.func 40) #[] #[.pointer (some ⟨kb, 0, none⟩)], .int .i64 x, undef, undef, undef, undef, undef], defers := [] }) ?assign ?body ?done ?stop
  case assign =>
    intro l9 x W K hK
    gi_wp2
    exact hK
  case body =>
    rintro l9 pre x W hcol hlt
    obtain ⟨v, hv, hrow, hnil⟩ := hcol.box
    have hB := hcol.below
    have hc := hv.cell
    have hlen : pre.length < T := by rw [← hTk.out]; exact hlt
    gi_wp2_with (gi_at_builtin; refine wpListIn_append_own _ rfl _ _ 26 rfl w.heap.size 3 i0 (.int .i64 0) 1 8 Try.underlying26 hi hz0 hz1 hz2 rfl (by decide) _ _ _ rfl (hrow.alloc _) ⟨W.heap.size, 0, none⟩ 1 1 [.int .i64 x] rfl rfl (cell_one_new _ _ _) (by simp [Value.oneCell']) (by unfold maxLen; omega) (by omega) (by have := hB.size; simp; omega) ?_; intro v' w1 hown' hgrow _; obtain ⟨g', cap', rfl⟩ := ownsRow_succ hown'; obtain ⟨hv1, hk2, hkp, hcol2⟩ := hcol.step hv hrow hlb hB.size (by intro e; cases e) hown' hgrow; have hc1 := hv1.cell; have hf1 := hv1.frozen)
    exact ⟨hk2, hkp, hcol2⟩
  case done =>
    rintro D ys W hD rfl hcol hK
    obtain ⟨v, hv, hrow, hnil⟩ := hcol.box
    have hc := hv.cell
    obtain ⟨d, c9, rfl⟩ : ∃ d c9, v = .slice d (expZ (keptZ l)).length c9 := row_slice hrow
    have HROW := hiddenN hrow
    have HCOL := hiddenN hcol
    clear hcol hrow hnil
    gi_wp2
    go_wp2
    refine ⟨by simp, .inl ⟨_, _, rfl, run_takeDeferred hK, ?_⟩⟩
    refine ⟨_, results_tmp2 rfl _ _ _, ?_⟩
    rw [← HRE.out]
    exact ⟨d, c9, by rw [HE.out]; rfl, ownsRow_putObj HROW.out _ hK rfl, HCOL.out.below.trans (belowK_b (w := w) (Nat.le_refl _) W D _ _ (by omega) hK rfl rfl)⟩
  case stop =>
    rintro D c' pre W _ _ h _
    exact h.elim
theorem expandZ_any (l : List Lp) (m : Bool) (a : Option Addr) (c : Nat) (w : World) (hN : Nst (· < w.heap.size) m w a l) (hs : sizZ l ≤ 1000000) : Calls Try.prog 26 #[.slice a l.length c] w (ExpE l w) := by
  by_cases he : chkZ l = 0
  · exact expandZ_good l m a c w hN hs he
  · exact expandZ_bad l m a c w hN hs he
end Go.Proofs.Ytmeogapffdgjlaa

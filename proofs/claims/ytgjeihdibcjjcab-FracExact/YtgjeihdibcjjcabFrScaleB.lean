/- What frac's Scale and Inv answer. -/
import Derived.Test.YtgjeihdibcjjcabFrScale
namespace Go.Proofs.Ytgjeihdibcjjcab
open Go.ChangeShapes Go.WideShapes Go.ChangeAt Go.RowKit

/-- The scale, where all is well. -/
def lcOK (fs : List (Int × Int)) : Option Nat := (lcmO 1 (densOf fs)).bind fun K => if scB K fs then some K else none
def scOK (fs : List (Int × Int)) : Option Nat := if allB fs then lcOK fs else none
def scK (fs : List (Int × Int)) : Int := ((scOK fs).getD 0 : Nat)
def scR (fs : List (Int × Int)) : List Int := match scOK fs with | some K => scL K fs | none => []
def scE (fs : List (Int × Int)) : Int := if allB fs then (if (scOK fs).isSome then 0 else 4) else 1

theorem lcOK_some {fs : List (Int × Int)} {K : Nat} (h1 : lcmO 1 (densOf fs) = some K) (h2 : scB K fs = true) : lcOK fs = some K := by unfold lcOK; rw [h1]; simp [h2]
theorem lcOK_none {fs : List (Int × Int)} (h : ∀ K, lcmO 1 (densOf fs) = some K → scB K fs = false) : lcOK fs = none := by
  unfold lcOK
  cases e : lcmO 1 (densOf fs) with
  | none => rfl
  | some K => simp [h K e]

def ScaleC (w : World) (fs : List (Int × Int)) (len bk bw : Nat) (e : Ending) (w' : World) : Prop :=
  ∃ w1, Below w.heap.size w w1 ∧ ((∃ K g, lcOK fs = some K ∧ e = .returned (.tuple #[]) ∧ w.heap.size ≤ g ∧ w1.rowIs g 3 len (fun i => .int .i64 (nth (scL K fs) i)) ∧ w' = (w1.setCell ⟨bk, 0, none⟩ (.int .i64 (K : Nat))).setCell ⟨bw, 0, none⟩ (.slice (some ⟨g, 0, none⟩) len len)) ∨
    (lcOK fs = none ∧ e = .panicked bigPanic ∧ w' = w1))

set_option maxRecDepth 100000 in
set_option maxHeartbeats 1000000 in
theorem scalec_any (a : Option Addr) (fs : List (Int × Int)) (len cap : Nat) (bs bk bw : Nat) (w : World) (hl : fs.length = len) (hr : len * 16 ≤ 140737488351232) (hz : InRP fs) (h : AtP w a fs) (hall : allB fs = true)
    (vs : Var1 w bs (.slice a len cap)) (vk : Var1 w bk (.int .i64 0)) (vw : Var1 w bw (.slice none 0 0)) (hne : bk ≠ bw) :
    Calls Try.prog 36 #[.pointer (some ⟨bs, 0, none⟩), .pointer (some ⟨bk, 0, none⟩), .pointer (some ⟨bw, 0, none⟩)] w (ScaleC w fs len bk bw) := by
  have cs := vs.c0
  have hlow := scaled_any a fs len cap w hl hr hz h hall
  clear hall h
  cases hB : lcOK fs with
  | none =>
    have HB : Hid (lcOK fs = none) := hB
    clear hB
    go_enter Try.func36, Try.ntmps36
    go_wp2_with (go_at_call 37; refine hlow.mono ?_; rintro e w1 ⟨hb, ⟨K, g, h1, h2, rfl, hg, hrow⟩ | ⟨h1, rfl⟩⟩; (have := lcOK_some h1 h2; rw [HB.out] at this; cases this))
    exact ⟨rfl, w1, hb, .inr ⟨HB.out, rfl, rfl⟩⟩
  | some K =>
    have HB : Hid (lcOK fs = some K) := hB
    clear hB
    have HNE : Hid (bk ≠ bw) := hne
    have n1 : ¬ bk = bw := hne
    go_enter Try.func36, Try.ntmps36
    go_wp2_with (go_at_call 37; refine hlow.mono ?_; rintro e w1 ⟨hb, ⟨K', g, h1, h2, rfl, hg, hrow⟩ | ⟨h1, rfl⟩⟩; rotate_left; (have := lcOK_none h1; rw [HB.out] at this; cases this); have e1 := lcOK_some h1 h2; rw [HB.out] at e1; cases e1; have VK := vk.later hb vk.lt; have VW := vw.later hb vw.lt; have c0 := VK.c0; have f0 := VK.f0; have VW' := VW.other (p := ⟨bk, 0, none⟩) HNE.out (.int .i64 (K : Nat)); have c1 := VW'.c0; have f1 := VW'.f0)
    go_end0
    exact ⟨w1, hb, .inl ⟨K, g, HB.out, rfl, hg, hrow, rfl⟩⟩

def tryK (fs : List (Int × Int)) : Int := ((lcOK fs).getD 0 : Nat)
def tryE (fs : List (Int × Int)) : Int := if (lcOK fs).isSome then 0 else 4
/-- A slice of the call's own: nil, or a new row of just these numbers. -/
def OwnS (base : Nat) (w : World) (a : Option Addr) (n cap : Nat) (zs : List Int) : Prop :=
  zs.length = n ∧ ((a = none ∧ n = 0 ∧ cap = 0) ∨ (∃ g, a = some ⟨g, 0, none⟩ ∧ base ≤ g ∧ cap = n ∧ w.rowIs g 3 n (fun i => .int .i64 (nth zs i))))
def tryR (fs : List (Int × Int)) : List Int := match lcOK fs with | some K => scL K fs | none => []
def ScaleT (w : World) (fs : List (Int × Int)) (bk bw : Nat) (e : Ending) (w' : World) : Prop :=
  e = .returned (.int .i64 (tryE fs)) ∧ Below bk w w' ∧ Var1 w' bk (.int .i64 (tryK fs)) ∧ ∃ a n cap, Var1 w' bw (.slice a n cap) ∧ OwnS w.heap.size w' a n cap (tryR fs)

theorem scale_try (a : Option Addr) (fs : List (Int × Int)) (len cap : Nat) (bs bk bw : Nat) (w : World) (hl : fs.length = len) (hr : len * 16 ≤ 140737488351232) (hz : InRP fs) (h : AtP w a fs) (hall : allB fs = true)
    (vs : Var1 w bs (.slice a len cap)) (vk : Var1 w bk (.int .i64 0)) (vw : Var1 w bw (.slice none 0 0)) (hne : bk < bw) :
    Calls Try.prog 35 #[.func (.func 36) #[] #[.pointer (some ⟨bs, 0, none⟩), .pointer (some ⟨bk, 0, none⟩), .pointer (some ⟨bw, 0, none⟩)]] w (ScaleT w fs bk bw) := by
  have b1 : Below w.heap.size w (w.alloc (.cells #[.int .i64 0] 25)) := (Below.refl _ _).alloc (Nat.le_refl _) _
  have ve := var1_new w (.int .i64 0) 25
  have sz : (w.alloc (.cells #[.int .i64 0] 25)).heap.size = w.heap.size + 1 := by simp
  have hlk := vk.lt
  have hlw := vw.lt
  refine (attempt_any 36 _ w (fun ok w1 => ok = (lcOK fs).isSome ∧ Below bk w w1 ∧ Var1 w1 bk (.int .i64 (tryK fs)) ∧ ∃ a n cap, Var1 w1 bw (.slice a n cap) ∧ OwnS (w.heap.size + 1) w1 a n cap (tryR fs)) (fun w' => by simp [go_sem]) ?_).mono ?_
  · refine (scalec_any a fs len cap bs bk bw _ hl hr hz (h.below b1) hall (vs.later b1 vs.lt) (vk.later b1 vk.lt) (vw.later b1 vw.lt) (by omega)).mono ?_
    rintro e w' ⟨w1, hb, ⟨K, g, hB, rfl, hg, hrow, rfl⟩ | ⟨hB, rfl, rfl⟩⟩
    · have hb' := b1.trans (hb.mono (by omega))
      have VK := vk.later hb' vk.lt
      have VW := vw.later hb' vw.lt
      refine ⟨((ve.later hb ve.lt).other (by simp; omega) _).other (by simp; omega) _, .inl ⟨rfl, by rw [hB]; rfl, ?_, ?_, ?_⟩⟩
      · exact ((hb'.mono (by omega)).setCell (by exact Nat.le_refl _) _).setCell (by simp; omega) _
      · unfold tryK; rw [hB]
        exact (VK.put _).other (by simp; omega) _
      · refine ⟨_, _, _, (VW.other (by simp; omega) _).put _, ?_⟩
        unfold tryR; rw [hB]
        exact ⟨by rw [scL_len]; exact hl, .inr ⟨g, rfl, by omega, rfl, (hrow.setOther (by simp; omega) _).setOther (by simp; omega) _⟩⟩
    · have hb' := b1.trans (hb.mono (by omega))
      refine ⟨ve.later hb ve.lt, .inr ⟨rfl, by rw [hB]; rfl, hb'.mono (by omega), ?_, ?_⟩⟩
      · unfold tryK; rw [hB]
        exact vk.later hb' vk.lt
      · refine ⟨_, _, _, vw.later hb' vw.lt, ?_⟩
        unfold tryR; rw [hB]
        exact ⟨rfl, .inl ⟨rfl, rfl, rfl⟩⟩
  · rintro e w' ⟨ok, w1, ⟨rfl, hb, v, x, n, c, vw', how⟩, rfl, rfl⟩
    refine ⟨rfl, hb.setCell (by simp; omega) _, v.other (by simp; omega) _, x, n, c, vw'.other (by simp; omega) _, how.1, ?_⟩
    rcases how.2 with k | ⟨g, k1, k2, k3, k4⟩
    · exact .inl k
    · exact .inr ⟨g, k1, by omega, k3, k4.setOther (by simp; omega) _⟩

/-- What Scale answers. -/
def ScaleEnd (w : World) (fs : List (Int × Int)) (e : Ending) (w' : World) : Prop :=
  Below w.heap.size w w' ∧ ∃ a n cap, e = .returned (.tuple #[.int .i64 (scK fs), .slice a n cap, .int .i64 (scE fs)]) ∧ OwnS w.heap.size w' a n cap (scR fs)

set_option maxRecDepth 100000 in
set_option maxHeartbeats 1000000 in
theorem scale_frac (a : Option Addr) (fs : List (Int × Int)) (len cap : Nat) (w : World) (hl : fs.length = len) (hr : len * 16 ≤ 140737488351232) (hz : InRP fs) (h : AtP w a fs) :
    Calls Try.prog 18 #[.slice a len cap] w (ScaleEnd w fs) := by
  have hmf : ∀ (fn : Fn) (first cap : Array Value) (w : World), (Instr.makeFunc fn first cap).run Try.prog w = .ok (.func fn first cap) w := fun _ _ _ _ => rfl
  have hv := fun W k => allValid_any a fs len cap W hl (by omega) hz k
  have HV : Hid (∃ W, W = w.alloc (.cells #[.slice a len cap] 43) ∧ Var1 W w.heap.size (.slice a len cap) ∧ Below w.heap.size w W ∧ W.heap.size = w.heap.size + 1) := by
    refine ⟨_, rfl, ?_, ?_, ?_⟩
    · exact var1_new w _ _
    · exact (Below.refl _ _).alloc (Nat.le_refl _) _
    · simp
  have HAt : Hid (AtP w a fs) := h
  cases hB : allB fs
  · rw [hB] at hv
    have K : Hid (scK fs = 0 ∧ scE fs = 1 ∧ scR fs = []) := ⟨by unfold scK scOK; rw [hB]; rfl, by unfold scE; rw [hB]; rfl, by unfold scR scOK; rw [hB]; rfl⟩
    clear hB h
    go_enter Try.func18, Try.ntmps18
    go_wp2_with (go_at_call 34; obtain ⟨W, eW, k0, kb, ks⟩ := HV.out; subst eW; refine (hv _ (HAt.out.below kb)).mono ?_; rintro e w1 ⟨rfl, hb⟩)
    refine bodyPost_ret (v := .tuple #[.int .i64 0, .slice none 0 0, .int .i64 1]) (by simp [results, Try.results18, go_sem]) rfl ⟨kb.trans (hb.mono (by omega)), none, 0, 0, by rw [K.out.1, K.out.2.1], ?_⟩
    rw [K.out.2.2]
    exact ⟨rfl, .inl ⟨rfl, rfl, rfl⟩⟩
  · rw [hB] at hv
    have K : Hid (scK fs = tryK fs ∧ scE fs = tryE fs ∧ scR fs = tryR fs) := ⟨by unfold scK scOK; rw [hB]; rfl, by unfold scE scOK; rw [hB]; rfl, by unfold scR scOK; rw [hB]; rfl⟩
    have HT := fun bs bk bw W k1 k2 k3 k4 k5 => scale_try a fs len cap bs bk bw W hl hr hz k1 hB k2 k3 k4 k5
    clear hB h
    go_enter Try.func18, Try.ntmps18
    go_wp2_with (first
      | (go_at_call 34; obtain ⟨W, eW, k0, kb, ks⟩ := HV.out; subst eW; refine (hv _ (HAt.out.below kb)).mono ?_; rintro e w1 ⟨rfl, hb⟩; have q1 := kb.trans (hb.mono (by omega)); have s0 := ((k0.later hb k0.lt).alloc (.cells #[.int .i64 0] 3)).alloc (.cells #[.slice none 0 0] 22); have s1 := (var1_new w1 (.int .i64 0) 3).alloc (.cells #[.slice none 0 0] 22); have s2 : Var1 ((w1.alloc (.cells #[.int .i64 0] 3)).alloc (.cells #[.slice none 0 0] 22)) (w1.heap.size + 1) (.slice none 0 0) := var1_at _ _ _ (by simp); have q2 := (q1.alloc q1.size (.cells #[.int .i64 0] 3)).alloc (by have := q1.size; simp; omega) (.cells #[.slice none 0 0] 22))
      | (go_at_call 35; refine (HT _ _ _ _ (HAt.out.below q2) s0 s1 s2 (by omega)).mono ?_; rintro e w2 ⟨rfl, hb2, v, x, n, c, vw', how⟩; have c0 := v.c0; have c1 := vw'.c0))
    go_quiet (fail)
    go_wp2
    have hq2 := q2.trans (hb2.mono q1.size)
    refine bodyPost_ret (v := .tuple #[.int .i64 (tryK fs), .slice x n c, .int .i64 (tryE fs)]) (by simp [results, Try.results18, go_sem]) rfl ⟨bdrew hq2 nq, x, n, c, by rw [K.out.1, K.out.2.1], ?_⟩
    rw [K.out.2.2]
    refine ⟨how.1, ?_⟩
    rcases how.2 with k | ⟨g, k1, k2, k3, k4⟩
    · exact .inl k
    · exact .inr ⟨g, k1, Nat.le_trans q2.size k2, k3, k4⟩

/-- What Inv answers. -/
def invN (n d : Int) : Int := if validB n d then newN d n else 0
def invD (n d : Int) : Int := if validB n d then newD d n else 0
def invE (n d : Int) : Int := if validB n d then newE d n else 1
def InvEnd (w : World) (n d : Int) (e : Ending) (w' : World) : Prop :=
  e = .returned (.tuple #[.agg #[.int .i64 (invN n d), .int .i64 (invD n d)], .int .i64 (invE n d)]) ∧ Below w.heap.size w w'
set_option maxRecDepth 100000 in
set_option maxHeartbeats 1000000 in
theorem inv_frac (n d : Int) (w : World) (hn : -9223372036854775808 ≤ n ∧ n ≤ 9223372036854775807) (hd : -9223372036854775808 ≤ d ∧ d ≤ 9223372036854775807) :
    Calls Try.prog 41 #[.agg #[.int .i64 n, .int .i64 d]] w (InvEnd w n d) := by
  have hv := fun w => valid_any n d w hn hd
  have hnew := fun w => new_any d n w hd hn
  have HV : Hid (∃ W, W = (w.alloc (.cells #[.int .i64 n, .int .i64 d] 24)).alloc (.cells #[.int .i64 0, .int .i64 0] 24) ∧ Var2 W w.heap.size (.int .i64 n) (.int .i64 d) ∧ Var2 W (w.heap.size + 1) (.int .i64 0) (.int .i64 0) ∧ Below w.heap.size w W) := by
    refine ⟨_, rfl, ?_, ?_, ?_⟩
    · exact (var2_new w _ _ _).alloc _
    · exact var2_at _ _ _ _ (by simp)
    · exact ((Below.refl _ _).alloc (Nat.le_refl _) _).alloc (by simp) _
  cases hB : validB n d
  · rw [hB] at hv
    have K : Hid (invN n d = 0 ∧ invD n d = 0 ∧ invE n d = 1) := ⟨by unfold invN; rw [hB]; rfl, by unfold invD; rw [hB]; rfl, by unfold invE; rw [hB]; rfl⟩
    clear hB
    go_enter Try.func41, Try.ntmps41
    go_wp2_with (go_at_call 25; obtain ⟨W, eW, k0, k1, kb⟩ := HV.out; subst eW; refine (hv _).mono ?_; rintro e w1 ⟨rfl, hb⟩; have r := k1.later hb k1.lt; have d0 := r.c0; have d1 := r.c1; have f0 := r.f0; have f1 := r.f1)
    refine bodyPost_ret (v := .tuple #[.agg #[.int .i64 0, .int .i64 0], .int .i64 1]) (by simp [results, Try.results41, go_sem, d0, d1]) rfl ⟨by rw [K.out.1, K.out.2.1, K.out.2.2], ?_⟩
    exact ((kb.trans (hb.mono kb.size)).setCell (by simp) _).setCell (by simp) _
  · rw [hB] at hv
    have K : Hid (invN n d = newN d n ∧ invD n d = newD d n ∧ invE n d = newE d n) := ⟨by unfold invN; rw [hB]; rfl, by unfold invD; rw [hB]; rfl, by unfold invE; rw [hB]; rfl⟩
    clear hB
    go_enter Try.func41, Try.ntmps41
    go_wp2_with (first
      | (go_at_call 25; obtain ⟨W, eW, k0, k1, kb⟩ := HV.out; subst eW; refine (hv _).mono ?_; rintro e w1 ⟨rfl, hb⟩; have g0 := k0.later hb k0.lt; have g1 := k1.later hb k1.lt; have a0 := g0.c0; have a1 := g0.c1)
      | (go_at_call 27; refine (hnew _).mono ?_; rintro e w2 ⟨rfl, hb2⟩; have r := g1.later hb2 g1.lt; have d0 := r.c0; have d1 := r.c1; have f0 := r.f0; have f1 := r.f1))
    refine bodyPost_ret (v := .tuple #[.agg #[.int .i64 (newN d n), .int .i64 (newD d n)], .int .i64 (newE d n)]) (by simp [results, Try.results41, go_sem, d0, d1]) rfl ⟨by rw [K.out.1, K.out.2.1, K.out.2.2], ?_⟩
    exact (((kb.trans (hb.mono kb.size)).trans (hb2.mono (kb.trans (hb.mono kb.size)).size)).setCell (by simp) _).setCell (by simp) _
end Go.Proofs.Ytgjeihdibcjjcab

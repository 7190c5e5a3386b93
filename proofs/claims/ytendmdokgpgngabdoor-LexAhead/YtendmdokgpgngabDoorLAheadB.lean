/- What stands ahead of each token is read, and has the tokens ahead of that (LexAhead). -/
import Derived.Test.YtendmdokgpgngabDoorLAhead
namespace Go.Proofs.YtendmdokgpgngabDoor
open Go.ChangeShapes Go.WideShapes Go.ChangeAt Go.RowKit

/-- What All makes of a text that is read, told token by token. -/
def ReadAt (W : World) (ts : List Tok) (n : Nat) (e : Ending) (w' : World) : Prop :=
  ∃ g off cap, e = .returned (.tuple #[.slice (some ⟨g, off, none⟩) n cap, .agg #[.int .i64 0, .int .i64 0]]) ∧ AtT w' (some ⟨g, off, none⟩) ts ∧ n ≤ cap ∧ Below W.heap.size W w'
theorem all_at (l : List UInt8) (ts : List Tok) (n : Nat) (ht : textG l = ⟨ts, 0, 0⟩) (hn : ts.length = n) (h0 : ts ≠ []) (W : World) (hW : Env W) : Calls Tryd.prog 5 #[.string (str l)] W (ReadAt W ts n) :=
  (all_any l W hW).mono fun _ w' ⟨v, he, hk, hb⟩ => by
    rw [ht] at he hk
    obtain ⟨a, cap, he', hat⟩ := hk.at
    obtain ⟨g, cap', he2, -⟩ := hk.open h0
    rw [he2] at he'
    cases he'
    rw [he2] at he hk
    subst hn
    have hroom : ts.length ≤ cap := by
      rcases hk.2 with ⟨h1, -⟩ | ⟨g', c', cur, hv, -, -, hc, -⟩
      · cases h1
      · cases hv; exact hc
    exact ⟨g, 0, cap, he, hat, hroom, hb⟩
theorem nthT_app {ts us : List Tok} {k : Nat} (h : k < ts.length) : nthT (ts ++ us) k = nthT ts k := by
  unfold nthT
  rw [List.getD_eq_getElem?_getD, List.getD_eq_getElem?_getD, List.getElem?_append_left h]
theorem AtT.pre {w a ts us} (h : AtT w a (ts ++ us)) : AtT w a ts := by
  rcases h with h | ⟨g, off, rfl, hc⟩
  · exact Or.inl (List.append_eq_nil_iff.1 h).1
  · refine Or.inr ⟨g, off, rfl, fun k hk => ?_⟩
    rw [← nthT_app hk (us := us)]
    exact hc k (by rw [List.length_append]; omega)
theorem AtT.at {w g off ts} (h : AtT w (some ⟨g, off, none⟩) ts) {k : Nat} (hk : k < ts.length) : Cell4 w g (off + k * 4) (nthT ts k) := by
  rcases h with h | ⟨g', off', e, hc⟩
  · subst h; simp at hk
  · cases e
    exact hc k hk
set_option maxRecDepth 100000 in
set_option maxHeartbeats 4000000 in
theorem ahead_read (l : List UInt8) (w : World) (hE : Env w) (h : l.length ≤ 1048576) (ts : List Tok) (hl : allL 0 l = ⟨ts, 0, 0⟩) : Calls Tryd.prog 3 #[.string (str l)] w (JoinsEnd w) := by
  have e1 := str_size l
  have hsm := all_some l.length 0 l (Nat.le_refl _) (by rw [hl])
  have hpl := all_places l.length 0 l (Nat.le_refl _)
  have hah := all_ahead l.length 0 l (Nat.le_refl _) (by rw [hl])
  rw [hl] at hsm hpl hah
  simp only at hsm hpl hah
  have hnn : ts.length ≤ 1048577 := by omega
  have A1 := hidden (all_at l ts ts.length (by rw [text_short h, hl]) rfl hsm.2)
  have AT : Hid (∀ i, i < ts.length → ∃ q : Nat, (nthT ts i).place = (q : Int) ∧ q ≤ l.length ∧ (∀ W, Env W → Calls Tryd.prog 5 #[.string (str (l.take q))] W (ReadAt W (ts.take i ++ [⟨0, [], 0, ((0 + q : Nat) : Int)⟩]) (i + 1)))) := fun i hi => by
    have hp := hpl _ (nth_mem hi)
    have hg : ts[i]? = some (nthT ts i) := by
      unfold nthT
      rw [List.getD_eq_getElem?_getD, List.getElem?_eq_getElem hi]
      rfl
    have ha := hah i (nthT ts i).place.toNat _ hg (by omega)
    refine ⟨(nthT ts i).place.toNat, by omega, by omega, fun W hW => ?_⟩
    refine all_at _ _ _ ?_ ?_ (by simp) W hW
    · rw [text_short (by rw [List.length_take]; omega)]; exact ha
    · rw [List.length_append, List.length_take]
      simp only [List.length_cons, List.length_nil]
      omega
  have HS : Hid (∀ i, i ≤ ts.length → ∀ W a b ca cb, AtT W a (ts.take i) → AtT W b (ts.take i) → Calls Tryd.prog 7 #[.slice a i ca, .slice b i cb] W fun e w' => e = .returned (.bool true) ∧ ∃ m, w' = W.drewN m) := fun i hi W a b ca cb ha hb =>
    same_any a b i ca cb _ W (by rw [List.length_take]; omega) ha hb (by omega)
  have HN0 := hidden hsm.2
  clear hpl hah hl hsm
  have i9 : (l.length : Int) ≤ 1048576 := by omega
  have hnI : (ts.length : Int) ≤ 1048577 := by omega
  have HW := hidden awake_any
  have HE := hidden hE
  clear hE h
  have al : Hid (∀ {w1 : World} (o : Obj), Below w.heap.size w w1 → Below w.heap.size w (w1.alloc o)) := fun o h => h.alloc h.size o
  have ba : Hid (∀ (W : World) (o : Obj), Below W.heap.size W (W.alloc o)) := fun W o => (Below.refl _ _).alloc (Nat.le_refl _) _
  generalize hn : ts.length = n at *
  have HLN := hidden hn
  clear hn
  go_enter Tryd.func3, Tryd.ntmps3
  go_wp2_with (go_at_call 5; (with_reducible refine (A1.out _ HE.out).mono ?_); rintro e w1 ⟨g, off, cap, rfl, hat, hcap, hb1⟩; have B1 := hidden hb1; have K1 := hidden hat; clear hb1 hat)
  have hcI : (n : Int) ≤ (cap : Int) := by omega
  go_loopg [7] n (fun gk v wr => ∃ i, i ≤ n ∧ gk = n - i ∧ v = .int .i64 i ∧ AtT wr (some ⟨g, off, none⟩) ts ∧ Below w.heap.size w wr)
  case atStart => exact ⟨0, Nat.zero_le _, rfl, rfl, K1.out.below (ba.out _ _), al.out _ B1.out⟩
  case round =>
    obtain ⟨i, hi, rfl, rfl, hat, hbb⟩ := hrel
    have KA := hidden hat
    have BB := hidden hbb
    clear hat hbb
    by_cases hlt : i < n ∧ i < 40
    · obtain ⟨hlt, h40⟩ := hlt
      have j1 : (i : Int) < (n : Int) := by omega
      have j2 : (i : Int) < 40 := by omega
      obtain ⟨q, hq, hql, hcall⟩ := AT.out i hlt
      obtain ⟨c0, c1, c2, c3⟩ := KA.out.at (k := i) (by rw [HLN.out]; exact hlt)
      rw [hq] at c3
      have HCALL := hidden hcall
      clear hcall hq
      have HX := str_to l q
      have b0 : ¬ ((q : Int) < 0) := by omega
      have b0' : decide ((q : Int) < 0) = false := decide_eq_false b0
      have b1 : ¬ ((l.length : Int) < (q : Int)) := by omega
      have b1' : decide ((l.length : Int) < (q : Int)) = false := decide_eq_false b1
      have b2 : (q : Int) ≤ (l.length : Int) := by omega
      have HS2 := hidden (HS.out i hi)
      have s1 : IntKind.i64.wrap ((i : Int) + 1) = (i : Int) + 1 := by rw [IntKind.wrap_i64]; omega
      have s2 : ((i : Int) + 1 != (i : Int) + 1) = false := by simp
      have s3 : (i : Int) ≤ (cap : Int) := by omega
      generalize str (l.take q) = S2 at *
      generalize str (nthT ts i).text = S3 at *
      generalize (nthT ts i).sort = so at *
      generalize (nthT ts i).num = nm at *
      go_wp2_with (go_at_call 5; (with_reducible refine (HCALL.out _ (HE.out.below BB.out)).mono ?_); rintro e w2 ⟨g2, off2, cap2, rfl, hat2, hcap2, hb2⟩; have B2 := hidden (BB.out.trans (hb2.mono BB.out.size)); have K2 := hidden hat2.pre; have K3 := hidden ((KA.out.below hb2).take i); have K4 := hidden (KA.out.below hb2); clear hb2 hat2)
      have s4 : (i : Int) ≤ (cap2 : Int) := by omega
      have HQ : Hid (∀ (o : Obj) (m : Nat), Calls Tryd.prog 7 #[.slice (some ⟨g2, off2, none⟩) i cap2, .slice (some ⟨g, off, none⟩) i cap] ((w2.alloc o).drewN m) fun e w' => e = .returned (.bool true) ∧ ∃ k, w' = ((w2.alloc o).drewN m).drewN k) := fun o m => HS2.out _ _ _ _ _ ((K2.out.below (ba.out _ o)).below (bdrew (Below.refl _ _) m)) ((K3.out.below (ba.out _ o)).below (bdrew (Below.refl _ _) m))
      go_quiet (first | (go_at_call 7; (with_reducible refine Calls.quiet_of (HQ.out _ _))))
      go_wp2
      go_roundg (n - (i + 1))
      case measure => omega
      case rel => exact ⟨i + 1, by omega, rfl, by go_num, (K4.out.below (ba.out _ _)).below (bdrew (Below.refl _ _) nq), bdrew (al.out _ B2.out) nq⟩
    · have hw : Hid (Calls Tryd.prog 6 #[] wr fun e w' => e = .returned (.bool true) ∧ Below wr.heap.size wr w') := HW.out wr (HE.out.below BB.out)
      by_cases hlt2 : i < n
      · have j1 : (i : Int) < (n : Int) := by omega
        have j2 : ¬ ((i : Int) < 40) := by omega
        have j2' : decide ((i : Int) < 40) = false := decide_eq_false j2
        go_wp2_with (go_at_call 6; (with_reducible refine hw.out.mono ?_); rintro e w4 ⟨rfl, hb4⟩; have B4 := hidden (BB.out.trans (hb4.mono BB.out.size)); clear hb4)
        go_ret
        exact ⟨rfl, B4.out⟩
      · have j1 : ¬ ((i : Int) < (n : Int)) := by omega
        have j1' : decide ((i : Int) < (n : Int)) = false := decide_eq_false j1
        go_wp2_with (go_at_call 6; (with_reducible refine hw.out.mono ?_); rintro e w4 ⟨rfl, hb4⟩; have B4 := hidden (BB.out.trans (hb4.mono BB.out.size)); clear hb4)
        go_ret
        exact ⟨rfl, B4.out⟩
theorem lexAhead_walk (l : List UInt8) (w : World) (hE : Env w) : Calls Tryd.prog 3 #[.string (str l)] w fun e w' => e = .returned (.bool true) ∧ Below w.heap.size w w' := by
  rcases Nat.lt_or_ge 1048576 l.length with h | h
  · exact ahead_long l w hE h
  · by_cases he : (allL 0 l).err = 0
    · have hp := allL_zero he
      refine ahead_read l w hE h (allL 0 l).toks ?_
      generalize allL 0 l = g at *
      obtain ⟨a, b, c⟩ := g
      simp only at he hp
      subst he
      subst hp
      rfl
    · exact ahead_err l w hE h he
end Go.Proofs.YtendmdokgpgngabDoor

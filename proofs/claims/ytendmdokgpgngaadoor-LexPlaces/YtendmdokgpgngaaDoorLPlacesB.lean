/- Each token stands where it says, as it is written: a text that is read (LexPlaces). -/
import Derived.Test.YtendmdokgpgngaaDoorLPlaces
import Derived.Test.YtendmdokgpgngaaDoorLAhead
import Derived.Test.YtendmdokgpgngaaDoorLReadAt
namespace Go.Proofs.YtendmdokgpgngaaDoor
open Go.ChangeShapes Go.WideShapes Go.ChangeAt Go.RowKit

/-- Where the loop over the tokens stands. -/
def PlaceInv (l : List UInt8) (ts : List Tok) (i p : Nat) : Prop := (p ≤ l.length ∧ allL p (l.drop p) = ⟨ts.drop i, 0, 0⟩ ∧ i < ts.length) ∨ (i = ts.length ∧ p = l.length)
set_option maxRecDepth 100000 in
set_option maxHeartbeats 4000000 in
theorem places_read (l : List UInt8) (w : World) (hE : Env w) (h : l.length ≤ 1048576) (ts : List Tok) (hl : allL 0 l = ⟨ts, 0, 0⟩) : Calls Tryd.prog 7 #[.string (str l)] w (JoinsEnd w) := by
  have e1 := str_size l
  have hsm := all_some l.length 0 l (Nat.le_refl _) (by rw [hl])
  rw [hl] at hsm
  simp only at hsm
  have hnn : ts.length ≤ 1048577 := by omega
  have hn0 : 0 < ts.length := List.length_pos_iff.2 hsm.2
  have A1 := hidden (all_at l ts ts.length (by rw [text_short h, hl]) rfl hsm.2)
  have HI0 : Hid (PlaceInv l ts 0 0) := Or.inl ⟨Nat.zero_le _, by rw [List.drop_zero, List.drop_zero]; exact hl, hn0⟩
  clear hl hsm
  have HW := hidden awake_any
  have HE := hidden hE
  clear hE
  have al : Hid (∀ {w1 : World} (o : Obj), Below w.heap.size w w1 → Below w.heap.size w (w1.alloc o)) := fun o h => h.alloc h.size o
  have ba : Hid (∀ (W : World) (o : Obj), Below W.heap.size W (W.alloc o)) := fun W o => (Below.refl _ _).alloc (Nat.le_refl _) _
  generalize hn : ts.length = n at *
  have HLN := hidden hn
  clear hn
  have hnI : (0 : Int) < (n : Int) := by omega
  have i9 : (l.length : Int) ≤ 1048576 := by omega
  have hnI2 : (n : Int) ≤ 1048577 := by omega
  go_enter Tryd.func7, Tryd.ntmps7
  go_wp2_with (go_at_call 9; (with_reducible refine (A1.out _ HE.out).mono ?_); rintro e w1 ⟨g, off, cap, rfl, hat, hcap, hb1⟩; have B1 := hidden hb1; have K1 := hidden hat; clear hb1 hat)
  go_loopg [5, 6] n (fun gk at_ v wr => ∃ (i p : Nat), i ≤ n ∧ gk = n - i ∧ v = .int .i64 i ∧ at_ = .int .i64 p ∧ PlaceInv l ts i p ∧ AtT wr (some ⟨g, off, none⟩) ts ∧ Below w.heap.size w wr)
  case atStart => exact ⟨0, 0, Nat.zero_le _, rfl, rfl, rfl, HI0.out, K1.out.below (ba.out _ _), al.out _ B1.out⟩
  case round =>
    clear HI0
    obtain ⟨i, p, hi, rfl, rfl, rfl, hinv, hat, hbb⟩ := hrel
    have KA := hidden hat
    have BB := hidden hbb
    clear hat hbb
    rcases hinv with ⟨hp, hall, hlt⟩ | ⟨hin, hpl⟩
    · rw [HLN.out] at hlt
      obtain ⟨t, rest, q, s, hts, hst⟩ := place_step hp hall
      obtain ⟨-, hnth, hdr, hr0, hr1⟩ := drop_cons_nth hts
      rw [HLN.out] at hr0 hr1
      obtain ⟨c0, c1, c2, c3⟩ := KA.out.at (k := i) (by rw [HLN.out]; exact hlt)
      have HC := hidden (KA.out.at (k := i) (by rw [HLN.out]; exact hlt))
      rw [hnth] at c0 c1 c2 c3 HC
      have HSP := hidden (fun W => spelt_any t W hst.fits)
      have HRT := hidden (right_any t)
      have hplace := hst.place
      have hways := hst.ways
      rw [hst.spelt] at HSP
      have hle := hst.le
      have hroom := hst.room
      have HCUT : (str l).extract q (q + s.length) = str s := by rw [str_cut, hst.stands]
      have z1 := str_size s
      have z2 := str_list s
      clear hst hall hts hnth
      obtain ⟨so, tx, nm, pl⟩ := t
      simp only at c0 c1 c2 c3 HSP HRT hplace hways
      subst hplace
      have j1 : (i : Int) < (n : Int) := by omega
      have b0 : ¬ ((q : Int) < (p : Int)) := by omega
      have b0' : decide ((q : Int) < (p : Int)) = false := decide_eq_false b0
      have b1 : ¬ ((l.length : Int) < (q : Int)) := by omega
      have b1' : decide ((l.length : Int) < (q : Int)) = false := decide_eq_false b1
      have b2 : IntKind.i64.wrap ((l.length : Int) - (q : Int)) = (l.length : Int) - (q : Int) := by rw [IntKind.wrap_i64]; omega
      have b3 : ¬ ((l.length : Int) - (q : Int) < (s.length : Int)) := by omega
      have b3' : decide ((l.length : Int) - (q : Int) < (s.length : Int)) = false := decide_eq_false b3
      obtain ⟨q2, hq2⟩ : ∃ q2 : Nat, q + s.length = q2 := ⟨_, rfl⟩
      have b4 : (q : Int) + (s.length : Int) = (q2 : Int) := by omega
      have b5 : IntKind.i64.wrap (q2 : Int) = (q2 : Int) := by rw [IntKind.wrap_i64]; omega
      have b6 : (q : Int) ≤ (q2 : Int) := by omega
      have b7 : (q2 : Int) ≤ (l.length : Int) := by omega
      have b8 : (0 : Int) ≤ (q : Int) := by omega
      rw [hq2] at HCUT hroom hways
      have hqL : q ≤ l.length := by omega
      have hqN : decide (l.length < q) = false := decide_eq_false (by omega)
      have hqM : decide (q < p) = false := decide_eq_false (by omega)
      have b9 : (s == s) = true := by simp
      rcases hways with ⟨hs0, hrest, hend⟩ | ⟨hs1, hright, hrest, hnext⟩
      · subst hs0
        have hi1 := hr0 hrest
        have k1 : (n : Int) - 1 = (i : Int) := by omega
        have kb1 : ((i : Int) == (n : Int) - 1) = true := by rw [k1]; simp
        have kb2 : decide ((i : Int) = (n : Int) - 1) = true := decide_eq_true k1.symm
        clear k1
        have HNX : Hid (PlaceInv l ts (i + 1) q2) := Or.inr ⟨by rw [HLN.out]; exact hi1, hend⟩
        clear hdr hr0 hr1 hrest hi1 HRT hend
        go_wp2_with (go_at_call 17; (with_reducible refine (HSP.out _).mono ?_); rintro e w2 ⟨rfl, hb2⟩; have B2 := hidden (BB.out.trans (hb2.mono BB.out.size)); have KB := hidden (KA.out.below hb2); obtain ⟨d0, d1, d2, d3⟩ := HC.out.below hb2; clear hb2)
        go_quiet (fail)
        go_wp2
        go_roundg (n - (i + 1))
        case measure => omega
        case rel => exact ⟨i + 1, q2, by omega, rfl, by go_num, by go_num, HNX.out, KB.out.below (bdrew (Below.refl _ _) nq), bdrew B2.out nq⟩
      · have hi1 := hr1 hrest
        have k0 : decide (so = 0) = false := decide_eq_false hs1
        have k1 : ¬ ((i : Int) = (n : Int) - 1) := by omega
        have k1' : decide ((i : Int) = (n : Int) - 1) = false := decide_eq_false k1
        have kb0 : (so == 0) = false := by simpa using hs1
        have kb1 : ((i : Int) == (n : Int) - 1) = false := by simpa using k1
        have kb2 : (so != 0) = true := by simpa using hs1
        have HNX : Hid (PlaceInv l ts (i + 1) q2) := Or.inl ⟨by omega, by rw [hdr]; exact hnext, by rw [HLN.out]; exact hi1⟩
        rw [hright] at HRT
        clear hdr hr0 hr1 hrest hnext hright
        go_wp2_with (go_at_call 17; (with_reducible refine (HSP.out _).mono ?_); rintro e w2 ⟨rfl, hb2⟩; have B2 := hidden (BB.out.trans (hb2.mono BB.out.size)); have KB := hidden (KA.out.below hb2); obtain ⟨d0, d1, d2, d3⟩ := HC.out.below hb2; have HC2 := hidden (HC.out.below hb2); clear hb2)
        go_quiet (fail)
        go_wp2_with (go_at_call 16; (with_reducible refine (HRT.out _).mono ?_); rintro e w3 ⟨rfl, hb3⟩; have B3 := hidden ((bdrew B2.out nq).trans (hb3.mono B2.out.size)); have KC := hidden ((KB.out.below (bdrew (Below.refl _ _) nq)).below hb3); obtain ⟨f0, f1, f2, f3⟩ := (HC2.out.below (bdrew (Below.refl _ _) nq)).below hb3; clear hb3)
        go_roundg (n - (i + 1))
        case measure => omega
        case rel => exact ⟨i + 1, q2, by omega, rfl, by go_num, by go_num, HNX.out, KC.out, B3.out⟩
    · rw [HLN.out] at hin
      subst hin
      subst hpl
      have hw : Hid (Calls Tryd.prog 12 #[] wr fun e w' => e = .returned (.bool true) ∧ Below wr.heap.size wr w') := HW.out wr (HE.out.below BB.out)
      have j1 : ¬ ((i : Int) < (i : Int)) := by omega
      have j1' : decide ((i : Int) < (i : Int)) = false := decide_eq_false j1
      go_wp2_with (go_at_call 12; (with_reducible refine hw.out.mono ?_); rintro e w4 ⟨rfl, hb4⟩; have B4 := hidden (BB.out.trans (hb4.mono BB.out.size)); clear hb4)
      go_ret
      exact ⟨rfl, B4.out⟩
theorem lexPlaces_walk (l : List UInt8) (w : World) (hE : Env w) : Calls Tryd.prog 7 #[.string (str l)] w fun e w' => e = .returned (.bool true) ∧ Below w.heap.size w w' := by
  by_cases he : (textG l).err = 0
  · have h : l.length ≤ 1048576 := by
      rcases Nat.lt_or_ge 1048576 l.length with h | h
      · unfold textG at he; rw [if_pos h] at he; cases he
      · exact h
    rw [text_short h] at he
    have hp := allL_zero he
    refine places_read l w hE h (allL 0 l).toks ?_
    generalize allL 0 l = g at *
    obtain ⟨a, b, c⟩ := g
    simp only at he hp
    subst he
    subst hp
    rfl
  · exact places_err l w hE he
end Go.Proofs.YtendmdokgpgngaaDoor

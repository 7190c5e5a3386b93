/- Texts of one chain, laid one behind the other. -/
import Derived.Test.YtmeogapffdgjlaaPartLoopsFolds27
import Derived.Test.YtmeogapffdgjlaaPartLoopsFolds19
import Derived.Test.YtmeogapffdgjlaaPartLoopsFolds29
import Derived.Test.YtmeogapffdgjlaaPartLoopsFolds28
import Derived.Test.YtmeogapffdgjlaaPartLoopsFolds24
import Derived.Test.YtmeogapffdgjlaaPartLoopsFolds12
namespace Go.Proofs.Ytmeogapffdgjlaa
open Go.ChangeShapes Go.WideShapes Go.ChangeAt Go.RowKit
section
variable {H : Type} {enc : TypeId × Value → H} {W : World} {base : Nat} {held : Bool}
theorem loops_cap {a : Option Addr} {l c : Nat} {d : DataW H} {p : List MemPlace} (h : DataW.Trod enc Try.prog W base (fun _ => true) held 22 (.slice a l c) d p) : l ≤ c := by
  obtain ⟨fuel, hf⟩ := h
  rcases Deep.open_slice Try.underlying22 hf with ⟨h1, -⟩ | ⟨x, len, cap, m, n, D, Pl, h1, -, hl, -⟩
  · simp [Value.cells] at h1; omega
  · simp [Value.cells] at h1; omega
end
theorem nst_cap {B : Nat} {F G : Nat → Prop} {w : World} {d : Option Addr} {c : Nat} {S : List Lv} {l : List Lp} (h1 : CapZ B w d c S) (h2 : MchZ F false w S l) (hF : ∀ k, F k → G k) (hG : ∀ k, k < w.heap.size → G k) : Nst G false w d l := by
  by_cases hl : l = []
  · exact .inl hl
  · obtain ⟨g, rfl⟩ := h1.there (by intro e; rw [e] at h2; have := h2.len; exact hl (List.eq_nil_of_length_eq_zero this.symm))
    refine .inr ⟨g, 0, rfl, nst_of_row (S := S) (hG _ (h1.lt _ rfl).2) (h2.mono hF) (fun k hk j hj => ?_) (fun e => by cases e)⟩
    rw [Nat.zero_add]
    exact h1.cell hk hj
/-- How the document's Fold ends. -/
def RFoE (t : Int) (l : List Lp) (w : World) (e : Ending) (w' : World) : Prop := ∃ d c, e = .returned (.tuple #[.slice d (fldV t l).length c, .int .i64 (fldE t l : Int)]) ∧ Nst (· < w'.heap.size) false w' d (fldV t l) ∧ Below w.heap.size w w'
set_option maxRecDepth 100000 in
set_option maxHeartbeats 16000000 in
theorem rfoldZ_any (t : Int) (l : List Lp) (a : Option Addr) (c : Nat) (w : World) (hN : Nst (· < w.heap.size) false w a l) (hc : l.length ≤ c) (hs : sizZ l ≤ 1000000) : Calls Try.prog 18 #[.int .i64 t, .slice a l.length c] w (RFoE t l w) := by
  obtain ⟨RE, hRE⟩ : ∃ Q : Ending → World → Prop, RFoE t l w = Q := ⟨_, rfl⟩
  rw [hRE]
  have HRE := hiddenN hRE
  have HN := hiddenN hN
  have HS := hiddenN hs
  have HCP := hiddenN hc
  have CK := hiddenN (rcheckZ_any l false a c w hN hs)
  obtain ⟨L, hL⟩ : ∃ q, l.length = q := ⟨_, rfl⟩
  have HL := hiddenN hL
  rw [hL] at CK ⊢
  obtain ⟨C, hC⟩ : ∃ q, chkZ l = q := ⟨_, rfl⟩
  have HC := hiddenN hC
  rw [hC] at CK
  clear hRE hN hs hc hL hC
  go_enter Try.func18, Try.ntmps18
  go_upto_region 2 with (go_at_call 37; (with_reducible refine CK.out.mono ?_); rintro e w1 ⟨rfl, b⟩; have B1 := hiddenN b; clear b)
  clear CK
  by_cases hC0 : C = 0
  · subst hC0
    by_cases ht : t < 1 ∨ 16 < t
    · have HE : Hid (fldE t l = 1) := by show _ = _; unfold fldE; rw [if_neg (by rw [HC.out]; decide), if_pos ht]
      have HV : Hid (fldV t l = []) := by show _ = _; unfold fldV; rw [HE.out, if_neg (by decide)]
      have HEND : Hid (RFoE t l w (.returned (.tuple #[.slice none 0 0, .int .i64 1])) w1) := ⟨none, 0, by rw [HE.out, HV.out]; rfl, by rw [HV.out]; exact .inl rfl, B1.out⟩
      by_cases ht1 : t < 1
      · clear ht
        go_wp2
        rw [← HRE.out]
        exact HEND.out
      · have ht2 : 16 < t := by omega
        clear ht
        go_wp2
        rw [← HRE.out]
        exact HEND.out
    · have ht1 : ¬ t < 1 := by omega
      have ht2 : ¬ 16 < t := by omega
      obtain ⟨wd, rfl⟩ : ∃ q : Nat, t = (q : Int) := ⟨t.toNat, by omega⟩
      have HE := hiddenN (fld_deep HC.out (t := (wd : Int)) (by omega) (by omega))
      rw [Int.toNat_natCast] at HE
      have PA := hiddenN (pass_any wd l a c w1 ((HN.out.mono (G := (· < w.heap.size)) fun k hk => hk).below B1.out |>.mono fun k hk => Nat.lt_of_lt_of_le hk B1.out.size) (by omega) (by omega) HCP.out HS.out)
      rw [HL.out] at PA
      have HSP : Hid (sizZ (pasZ wd l) ≤ 1000000) := by show _ ≤ _; have h := pas_siz (w := wd) (by omega) l; have := HS.out; omega
      unfold PasE at PA
      have CKP : Hid (∀ u d cc, Nst (· < u.heap.size) false u d (pasZ wd l) → Calls Try.prog 37 #[.slice d (pasZ wd l).length cc] u fun e w' => e = .returned (.int .i64 (chkZ (pasZ wd l) : Int)) ∧ Below u.heap.size u w') := fun u d cc h => rcheckZ_any _ false d cc u h HSP.out
      have HFV : Hid (fldV (wd : Int) l = if fldE (wd : Int) l = 0 then pasZ wd l else []) := by show _ = _; unfold fldV; rw [Int.toNat_natCast]
      obtain ⟨lv, hlv⟩ : ∃ q, pasZ wd l = q := ⟨_, rfl⟩
      rw [hlv] at PA CKP HE HFV
      obtain ⟨VL, hVL⟩ : ∃ q, lv.length = q := ⟨_, rfl⟩
      rw [hVL] at PA CKP
      have HVL := hiddenN hVL
      obtain ⟨E, hE⟩ : ∃ q, chkZ lv = q := ⟨_, rfl⟩
      rw [hE] at CKP HE
      clear hlv hVL hE ht
      go_upto_region 7 with (go_at_call 47; (with_reducible refine PA.out.mono ?_); rintro e w2 ⟨d2, c2, S2, rfl, q1, q2, b⟩; have N2 := hiddenN (nst_cap (G := (· < w2.heap.size)) q1 q2 (fun k hk => Nat.lt_of_lt_of_le hk b.size) (fun k hk => hk)); have B2 := hiddenN (B1.out.trans (b.mono B1.out.size)); clear q1 q2 b)
      clear PA
      by_cases hE0 : E = 0
      · subst hE0
        have HFE : Hid (fldE (wd : Int) l = 0) := HE.out.1
        have HFW : Hid (fldV (wd : Int) l = lv) := by show _ = _; rw [HFV.out, if_pos HFE.out]
        go_wp2_with (go_at_call 37; (with_reducible refine (CKP.out w2 d2 c2 N2.out).mono ?_); rintro e w3 ⟨rfl, b⟩; have N3 := hiddenN ((N2.out.below b).mono (G := (· < w3.heap.size)) fun k hk => Nat.lt_of_lt_of_le hk b.size); have B3 := hiddenN (B2.out.trans (b.mono B2.out.size)); clear b)
        rw [← HRE.out]
        exact ⟨d2, c2, by rw [HFE.out, HFW.out, HVL.out]; rfl, by rw [HFW.out]; exact N3.out, B3.out⟩
      · have HFE : Hid (fldE (wd : Int) l = 161) := by
          rcases HE.out.2 with q | q
          · exact absurd (HE.out.1.symm.trans q) hE0
          · exact q
        have HFW : Hid (fldV (wd : Int) l = []) := by show _ = _; rw [HFV.out, HFE.out, if_neg (by decide)]
        have hEi : ((E : Int) != 0) = true := by simp; omega
        go_wp2_with (go_at_call 37; (with_reducible refine (CKP.out w2 d2 c2 N2.out).mono ?_); rintro e w3 ⟨rfl, b⟩; have B3 := hiddenN (B2.out.trans (b.mono B2.out.size)); clear b)
        rw [← HRE.out]
        exact ⟨none, 0, by rw [HFE.out, HFW.out]; rfl, by rw [HFW.out]; exact .inl rfl, B3.out⟩
  · have hCi : ((C : Int) != 0) = true := by simp; omega
    have HE : Hid (fldE t l = C) := by show _ = _; unfold fldE; rw [if_pos (by rw [HC.out]; exact hC0), HC.out]
    have HV : Hid (fldV t l = []) := by show _ = _; unfold fldV; rw [HE.out, if_neg hC0]
    go_wp2
    rw [← HRE.out]
    exact ⟨none, 0, by rw [HE.out, HV.out]; rfl, by rw [HV.out]; exact .inl rfl, B1.out⟩
theorem rel_short : ∀ (l : List Lp) (S : List Lv) (Rs : List RwL), RelR l S Rs → ∀ r ∈ Rs, r.Z.length ≤ sizZ l := by
  refine nest_one (fun S Rs h r hr => by rw [(rel_nil.1 h).2] at hr; cases hr) fun x q hb hr S Rs h r hm => ?_
  obtain ⟨s, S', R1, R2, -, rfl, -, -, -, h2, h3⟩ := rel_cons.1 h
  rw [siz_cons]
  rcases List.mem_append.1 hm with hm | hm
  · rcases h3 with ⟨-, rfl⟩ | ⟨-, S0, R0, rfl, h5, h4⟩
    · cases hm
    · rcases List.mem_append.1 hm with hm | hm
      · have := hb _ _ h4 r hm; omega
      · rw [List.mem_singleton.1 hm]
        show S0.length ≤ _
        have := len_siz x.body
        omega
  · have := hr _ _ h2 r hm; omega
/-- Two nests that share no memory, nor the lists of one. -/
def DuoW (B : Nat) (w : World) (d1 : Option Addr) (c1 : Nat) (l1 : List Lp) (d2 : Option Addr) (c2 : Nat) (l2 : List Lp) : Prop := ∃ S1 R1 S2 R2, RelR l1 S1 R1 ∧ RelR l2 S2 R2 ∧ FamT B w ((R1 ++ [⟨d1, c1, S1⟩]) ++ (R2 ++ [⟨d2, c2, S2⟩]))
theorem DuoW.later {B : Nat} {w w' : World} {d1 : Option Addr} {c1 : Nat} {l1 : List Lp} {d2 : Option Addr} {c2 : Nat} {l2 : List Lp} (h : DuoW B w d1 c1 l1 d2 c2 l2) (hb : Below w.heap.size w w') : DuoW B w' d1 c1 l1 d2 c2 l2 := by
  obtain ⟨S1, R1, S2, R2, h1, h2, h3⟩ := h
  exact ⟨S1, R1, S2, R2, h1, h2, fun r hr => (h3.own r hr).later hb, h3.pair, h3.few, Nat.le_trans h3.low hb.size⟩
theorem duo_of {B : Nat} {w w' : World} {d1 : Option Addr} {c1 : Nat} {l1 : List Lp} {d2 : Option Addr} {c2 : Nat} {l2 : List Lp} (h1 : WrtZ B w d1 c1 l1) (h2 : WrtZ w.heap.size w' d2 c2 l2) (hb : Below w.heap.size w w') (hB : B ≤ w.heap.size) (hs1 : sizZ l1 ≤ 1000000) (hs2 : sizZ l2 ≤ 1000000) : DuoW B w' d1 c1 l1 d2 c2 l2 := by
  obtain ⟨S1, R1, p1, p2, p3, p4⟩ := h1
  obtain ⟨S2, R2, q1, q2, q3, q4⟩ := h2
  have e1 : ∀ r ∈ R1 ++ [(⟨d1, c1, S1⟩ : RwL)], CapZ B w r.a r.c r.Z := fun r hr => by
    rcases List.mem_append.1 hr with hr | hr
    · exact p4.own r hr
    · rw [List.mem_singleton.1 hr]; exact p1
  have e2 : ∀ r ∈ R2 ++ [(⟨d2, c2, S2⟩ : RwL)], CapZ w.heap.size w' r.a r.c r.Z := fun r hr => by
    rcases List.mem_append.1 hr with hr | hr
    · exact q4.own r hr
    · rw [List.mem_singleton.1 hr]; exact q1
  refine ⟨S1, R1, S2, R2, p3, q3, fun r hr => ?_, ?_, fun r hr => ?_, Nat.le_trans hB hb.size⟩
  · rcases List.mem_append.1 hr with hr | hr
    · exact (e1 r hr).later hb
    · exact capZ_mono (e2 r hr) hB
  · rw [List.pairwise_append]
    refine ⟨?_, ?_, fun r hr s hs x y hx hy => ?_⟩
    · rw [List.pairwise_append]
      exact ⟨p4.pair, List.pairwise_singleton _ _, fun r hr s hs x y hx hy => by rw [List.mem_singleton.1 hs] at hy; exact p4.off r hr x y hx hy⟩
    · rw [List.pairwise_append]
      exact ⟨q4.pair, List.pairwise_singleton _ _, fun r hr s hs x y hx hy => by rw [List.mem_singleton.1 hs] at hy; exact q4.off r hr x y hx hy⟩
    · have := ((e1 r hr).lt x hx).2
      have := ((e2 s hs).lt y hy).1
      omega
  · rcases List.mem_append.1 hr with hr | hr
    · rcases List.mem_append.1 hr with hr | hr
      · exact Nat.le_trans (rel_short _ _ _ p3 r hr) hs1
      · rw [List.mem_singleton.1 hr]
        show S1.length ≤ _
        rw [rel_len p3]
        exact Nat.le_trans (len_siz _) hs1
    · rcases List.mem_append.1 hr with hr | hr
      · exact Nat.le_trans (rel_short _ _ _ q3 r hr) hs2
      · rw [List.mem_singleton.1 hr]
        show S2.length ≤ _
        rw [rel_len q3]
        exact Nat.le_trans (len_siz _) hs2
theorem DuoW.apart {B : Nat} {w : World} {d1 : Option Addr} {c1 : Nat} {l1 : List Lp} {d2 : Option Addr} {c2 : Nat} {l2 : List Lp} (h : DuoW B w d1 c1 l1 d2 c2 l2) (hs : sizZ l1 + sizZ l2 + 2 ≤ 1000000) : Calls Try.prog 15 #[.slice d1 l1.length c1, .slice d2 l2.length c2] w fun e w' => e = .returned (.bool true) ∧ Below B w w' := by
  obtain ⟨S1, R1, S2, R2, h1, h2, h3⟩ := h
  refine (apartLoops_any B l1 l2 d1 d2 c1 c2 S1 S2 R1 R2 w h1 h2 h3 hs).mono fun e w' q => ?_
  exact ⟨q.1, q.2.1⟩
theorem fld_siz (t : Int) (l : List Lp) : sizZ (fldV t l) ≤ sizZ l := by
  unfold fldV
  by_cases h : fldE t l = 0
  · rw [if_pos h]
    have : chkZ l = 0 ∧ 1 ≤ t := by
      unfold fldE at h
      by_cases q : chkZ l ≠ 0
      · rw [if_pos q] at h; exact absurd h q
      · rw [if_neg q] at h
        by_cases q2 : t < 1 ∨ 16 < t
        · rw [if_pos q2] at h; cases h
        · exact ⟨Decidable.byContradiction q, by omega⟩
    exact pas_siz (by omega) l
  · rw [if_neg h, siz_nil]; exact Nat.zero_le _
set_option maxRecDepth 100000 in
set_option maxHeartbeats 16000000 in
theorem loopsFolds_walk (t : Int) (a : Option Addr) (l : List Lp) (c : Nat) (w : World) (_ : -9223372036854775808 ≤ t ∧ t ≤ 9223372036854775807) (h : Nst (· < w.heap.size) false w a l) (hc : l.length ≤ c) : Calls Try.prog 4 #[.int .i64 t, .slice a l.length c] w fun e w' => e = .returned (.bool true) ∧ Below w.heap.size w w' := by
  have HV := hiddenN (heavyZ_any l (· < w.heap.size) false a c w h)
  obtain ⟨RE, hRE⟩ : ∃ Q : Ending → World → Prop, (fun e w' => e = .returned (.bool true) ∧ Below w.heap.size w w') = Q := ⟨_, rfl⟩
  rw [hRE]
  have HRE := hiddenN hRE
  have HN := hiddenN h
  have HCC := hiddenN hc
  obtain ⟨L, hL⟩ : ∃ q, l.length = q := ⟨_, rfl⟩
  have HL := hiddenN hL
  rw [hL] at HV ⊢
  clear hRE h hL hc
  go_enter Try.func4, Try.ntmps4
  go_upto_region 3 with (go_at_call 9; (with_reducible refine HV.out.mono ?_); rintro e V0 ⟨b, rfl, hb, hw⟩; subst hw; cases b)
  · have hs : sizZ l ≤ 65536 := by simpa using hb
    have HS : Hid (sizZ l ≤ 1000000) := by show _ ≤ _; omega
    have HSV : Hid (sizZ (fldV t l) ≤ 65536) := Nat.le_trans (fld_siz t l) hs
    have LE : Hid (∀ u, Below w.heap.size w u → Calls Try.prog 11 #[.slice a L c] u (LenE l u)) := fun u hu => by
      have := lentZ_any l w.heap.size false a c u (HN.out.below hu) hu.size HS.out
      rwa [HL.out] at this
    have FO : Hid (∀ u B g cc, LtdZ B u g cc l → Calls Try.prog 17 #[.int .i64 t, .slice (some ⟨g, 0, none⟩) L cc] u (FolE t l u)) := fun u B g cc h => by
      have := foldZ_any t l true (some ⟨g, 0, none⟩) cc u h.bare HS.out
      rwa [HL.out] at this
    have RF : Hid (∀ u, Below w.heap.size w u → Calls Try.prog 18 #[.int .i64 t, .slice a L c] u (RFoE t l u)) := fun u hu => by
      have := rfoldZ_any t l a c u ((HN.out.below hu).mono fun k hk => Nat.lt_of_lt_of_le hk hu.size) HCC.out HS.out
      rwa [HL.out] at this
    have KP : Hid (∀ u B g cc, LtdZ B u g cc l → Below w.heap.size w u → Calls Try.prog 14 #[.slice (some ⟨g, 0, none⟩) L cc, .slice a L c] u fun e w' => e = .returned (.bool true) ∧ Below u.heap.size u w') := fun u B g cc h hu => by
      have := keptZ_any l (fun k => B ≤ k ∧ TyZ u k) (· < w.heap.size) false g 0 cc a c u h.nst h.cap (HN.out.below hu) HS.out
      rw [HL.out] at this
      exact this.mono fun e w' q => ⟨q.1, by obtain ⟨n, hn⟩ := q.2; rw [hn]; exact drewQ _ _⟩
    unfold LenE at LE
    unfold FolE at FO
    unfold RFoE at RF
    obtain ⟨E, hE⟩ : ∃ q, fldE t l = q := ⟨_, rfl⟩
    obtain ⟨lv, hlv⟩ : ∃ q, fldV t l = q := ⟨_, rfl⟩
    obtain ⟨VL, hVL⟩ : ∃ q, lv.length = q := ⟨_, rfl⟩
    rw [hE, hlv, hVL] at FO RF
    rw [hlv] at HSV
    have HVL := hiddenN hVL
    have SM : Hid (∀ u B d cc d4 c4, WrtZ B u d cc lv → Nst (· < u.heap.size) false u d4 lv → Calls Try.prog 19 #[.slice d VL cc, .slice d4 VL c4] u fun e w' => e = .returned (.bool true) ∧ Below u.heap.size u w') := fun u B d cc d4 c4 h1 h2 => by
      have := same_anyZ lv lv _ _ false false d cc d4 c4 u h1.nst h2 (Nat.le_trans HSV.out (by omega)) (Nat.le_trans HSV.out (by omega))
      rw [HVL.out, (sam_iff lv lv).2 rfl] at this
      exact this.mono fun e w' q => ⟨q.1, by obtain ⟨n, hn⟩ := q.2; rw [hn]; exact drewQ _ _⟩
    have AP : Hid (∀ u B d1 k1 d2 k2, DuoW B u d1 k1 lv d2 k2 lv → Calls Try.prog 15 #[.slice d1 VL k1, .slice d2 VL k2] u fun e w' => e = .returned (.bool true) ∧ Below B u w') := fun u B d1 k1 d2 k2 h => by
      have := h.apart (by have := HSV.out; omega)
      rwa [HVL.out] at this
    have hEE : ((E : Int) != (E : Int)) = false := by simp
    clear hb hs hE hlv hVL HV
    go_upto_region 4 with (go_at_call 11; (with_reducible refine (LE.out w (Below.refl _ _)).mono ?_); rintro e V1 ⟨g1, c1, rfl, hl, b⟩; rw [HL.out]; have T1 := hiddenN hl; have O1 := hiddenN b; clear hl b)
    clear LE
    go_upto_region 5 with (go_at_call 17; (with_reducible refine (FO.out V1 _ g1 c1 T1.out).mono ?_); rintro e V2 ⟨d2, c2, rfl, hw2, b⟩; have W2 := hiddenN hw2; have K2 := hiddenN b; have T2 := hiddenN (T1.out.later b); clear hw2 b)
    go_upto_region 6 with (go_at_call 17; (with_reducible refine (FO.out V2 _ g1 c1 T2.out).mono ?_); rintro e V3 ⟨d3, c3, rfl, hw3, b⟩; have W3 := hiddenN hw3; have D3 := hiddenN (duo_of W2.out hw3 b K2.out.size (Nat.le_trans HSV.out (by omega)) (Nat.le_trans HSV.out (by omega))); have Y3 := hiddenN (W2.out.later b); have K3 := hiddenN (belowT K2.out b); have T3 := hiddenN (T2.out.later b); have O3 := hiddenN (belowT O1.out (belowT K2.out b)); clear hw3 b)
    clear FO W2 T2 K2
    go_upto_region 7 with (go_at_call 18; (with_reducible refine (RF.out V3 O3.out).mono ?_); rintro e V4 ⟨d4, c4, rfl, hn4, b⟩; have N4 := hiddenN hn4; have W4 := hiddenN (W3.out.later b); have D4 := hiddenN (D3.out.later b); have Y4 := hiddenN (Y3.out.later b); have K4 := hiddenN (belowT K3.out b); have T4 := hiddenN (T3.out.later b); have O4 := hiddenN (belowT O3.out b); clear hn4 b)
    clear RF W3 D3 Y3 K3 T3 O3
    go_upto_region 9 with (first | (go_at_call 14; (with_reducible refine (KP.out V6 _ g1 c1 T6.out O6.out).mono ?_); rintro e V7 ⟨rfl, b⟩; have D7 := hiddenN (D6.out.later b); have K7 := hiddenN (belowT K6.out b); have O7 := hiddenN (belowT O6.out b); clear b) | (go_at_call 19; (with_reducible refine (SM.out V5 _ d3 c3 d4 c4 W5.out N5.out).mono ?_); rintro e V6 ⟨rfl, b⟩; have D6 := hiddenN (D5.out.later b); have K6 := hiddenN (belowT K5.out b); have T6 := hiddenN (T5.out.later b); have O6 := hiddenN (belowT O5.out b); clear b) | (go_at_call 19; (with_reducible refine (SM.out V4 _ d2 c2 d4 c4 Y4.out N4.out).mono ?_); rintro e V5 ⟨rfl, b⟩; have N5 := hiddenN ((N4.out.below b).mono (G := (· < V5.heap.size)) fun k hk => Nat.lt_of_lt_of_le hk b.size); have W5 := hiddenN (W4.out.later b); have D5 := hiddenN (D4.out.later b); have K5 := hiddenN (belowT K4.out b); have T5 := hiddenN (T4.out.later b); have O5 := hiddenN (belowT O4.out b); clear b))
    clear SM W4 D4 Y4 K4 T4 O4 N4 N5 W5 D5 K5 T5 O5 D6 K6 O6 T6
    go_wp2_with (first | (go_at_call 14; (with_reducible refine (KP.out V9 _ g1 c1 T9.out O9.out).mono ?_); rintro e V10 ⟨rfl, b⟩; have O10 := hiddenN (belowT O9.out b); clear b) | (go_at_call 15; (with_reducible refine (AP.out V8 _ d2 c2 d3 c3 D8.out).mono ?_); rintro e V9 ⟨rfl, b⟩; have T9 := hiddenN (T1.out.later (K8.out.trans b)); have O9 := hiddenN (belowT O1.out (K8.out.trans b)); clear b) | (go_at_call 20; (with_reducible refine (awakeL_any V7).mono ?_); rintro e V8 ⟨rfl, b⟩; have D8 := hiddenN (D7.out.later b); have K8 := hiddenN (belowT K7.out b); clear b))
    rw [← HRE.out]
    exact ⟨by first | rfl | simp, O10.out⟩
  · clear HV HN
    go_wp2
    rw [← HRE.out]
    exact ⟨by first | rfl | simp, Below.refl _ _⟩
end Go.Proofs.Ytmeogapffdgjlaa

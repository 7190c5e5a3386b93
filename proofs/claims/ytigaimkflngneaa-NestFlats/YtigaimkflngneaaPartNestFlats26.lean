/- Texts of one chain, laid one behind the other. -/
import Derived.Test.YtigaimkflngneaaPartNestFlats25
import Derived.Test.YtigaimkflngneaaPartNestFlats21
import Derived.Test.YtigaimkflngneaaPartNestFlats8
import Derived.Test.YtigaimkflngneaaPartNestFlats24
namespace Go.Proofs.Ytigaimkflngneaa
open Go.ChangeShapes Go.WideShapes Go.ChangeAt Go.RowKit Go.Shelf
theorem wpList_appYB {w : World} {ops : Array Oper} {rest : List Oper} {o : Oper} {a : Act} {Q : Exit → Act → World → Prop} (hgd : o.guard = none) (s x : Operand) (ho : o.op = .call { callee := .builtin .append, args := #[s, x], argTypes := #[24, 24] })
    (B : Nat) (d0 : Option Addr) (c0 : Nat) (zs : List (Int × Int)) (hs : a.eval s = .slice d0 zs.length c0) (hown : CapY B w d0 c0 zs) (g : Nat) (i : Int × Int) (hx : a.eval x = .slice (some ⟨g, 0, none⟩) 1 1) (hc : w.cell? ⟨g, 0, none⟩ = some (.int .i64 i.1)) (hc2 : w.cell? ⟨g, 1, none⟩ = some (.int .i64 i.2)) (hn : zs.length ≤ 8796093021952) (hB : B ≤ w.heap.size)
    (h : ∀ d c' w', GrwY B w d0 (zs ++ [i]) w' d c' → wpList Try.prog ops Q rest (a.put o.dst (.slice d (zs.length + 1) c')) w') : wpList Try.prog ops Q (o :: rest) a w := by
  obtain ⟨i1, hi1, hy0, hy1, hy2⟩ := info_parts Try.infoRun
  refine wpList_append_told (P := Try.prog) w hgd s x 24 ho B 29 i1 (.agg #[.int .i64 0, .int .i64 0]) 2 16 Try.underlying24 hi1 hy0 hy1 hy2 rfl (by decide) (.slice d0 zs.length c0) zs.length _ hs hown ⟨g, 0, none⟩ 1 1 (by decide) [.int .i64 i.1, .int .i64 i.2] hx rfl (fun j u hu => by
    match j, hu with
    | 0, hu =>
      simp at hu
      subst hu
      simpa [Addr.add] using hc
    | 1, hu =>
      simp at hu
      subst hu
      simpa [Addr.add] using hc2) (fun u hu => by simp at hu; rcases hu with rfl | rfl <;> rfl) (by unfold maxLen; omega) (by omega) hB ?_
  intro v' w' h2 h3
  have h2' : w'.ownsRow B 29 2 v' (zs ++ [i]).length (flatY (zs ++ [i])) := by
    rw [flatY_append, List.length_append]
    exact h2
  rcases h3 with ⟨g1, cap, e1, rfl, hg⟩ | ⟨cap, rfl, hg⟩
  · cases e1
    refine h _ _ w' ⟨by unfold CapY; simpa using h2', fun k hk hne => ?_, fun z hz => .inl hz, hg.size, hg.os, hg.tape, hg.output⟩
    exact hg.block k hk (fun e => by cases e; exact hne _ rfl rfl)
  · refine h _ _ w' ⟨by unfold CapY; simpa using h2', fun k hk hne => ?_, fun z hz => by cases hz; exact .inr (Nat.le_refl _), hg.size, hg.os, hg.tape, hg.output⟩
    exact hg.block k hk (fun e => by cases e)
theorem wpList_appYC {w : World} {ops : Array Oper} {rest : List Oper} {o : Oper} {a : Act} {Q : Exit → Act → World → Prop} (hgd : o.guard = none) (s x : Operand) (ho : o.op = .call { callee := .builtin .append, args := #[s, x], argTypes := #[24, 24] })
    (B : Nat) (d0 : Option Addr) (c0 : Nat) (zs : List (Int × Int)) (n : Nat) (hl : zs.length = n) (hs : a.eval s = .slice d0 n c0) (hown : CapY B w d0 c0 zs) (g : Nat) (i : Int × Int) (hx : a.eval x = .slice (some ⟨g, 0, none⟩) 1 1) (hc : w.cell? ⟨g, 0, none⟩ = some (.int .i64 i.1)) (hc2 : w.cell? ⟨g, 1, none⟩ = some (.int .i64 i.2)) (hn : n ≤ 8796093021952) (hB : B ≤ w.heap.size)
    (h : ∀ d c' w', GrwY B w d0 (zs ++ [i]) w' d c' → wpList Try.prog ops Q rest (a.put o.dst (.slice d (n + 1) c')) w') : wpList Try.prog ops Q (o :: rest) a w := by
  subst hl
  exact wpList_appYB hgd s x ho B d0 c0 zs hs hown g i hx hc hc2 hn hB h
theorem row_sliceF {w : World} {B e size n : Nat} {v : Value} {xs : List Value} (h : w.ownsRow B e size v n xs) : ∃ d c, v = .slice d n c := by
  rcases h.2 with ⟨hv, hn⟩ | ⟨g, cap, cur, hv, -⟩
  · exact ⟨none, 0, by rw [hv, hn]⟩
  · exact ⟨_, _, hv⟩
theorem wpList_appYI {w : World} {ops : Array Oper} {rest : List Oper} {o : Oper} {a : Act} {Q : Exit → Act → World → Prop} (hgd : o.guard = none) (s x : Operand) (ho : o.op = .call { callee := .builtin .append, args := #[s, x], argTypes := #[24, 24] })
    (B : Nat) (hs : a.eval s = .slice none 0 0) (ad : Option Addr) (c : Nat) (ys : List (Int × Int)) (n : Nat) (hn : ys.length = n) (hx : a.eval x = .slice ad n c) (hna : ad = none → ys.length = 0 ∧ c = 0) (hat : AtY w ad ys) (hb : n * 16 ≤ 140737488355328) (hB : B ≤ w.heap.size)
    (h : ∀ d c' w', CapY B w' d c' ys → Below B w w' → wpList Try.prog ops Q rest (a.put o.dst (.slice d n c')) w') : wpList Try.prog ops Q (o :: rest) a w := by
  subst hn
  obtain ⟨i0, hi, hz0, hz1, hz2⟩ := info_parts Try.infoRun
  cases ad with
  | none =>
    obtain ⟨h1, rfl⟩ := hna rfl
    have e : ys = [] := List.eq_nil_of_length_eq_zero h1
    subst e
    refine wpList_append_own_none hgd s x 24 ho B 29 i0 2 Try.underlying24 hi _ 0 [] hs (CapY.nil B w) hx ?_
    have := h none 0 w (CapY.nil B w) (Below.refl _ _)
    simpa using this
  | some ad =>
    refine wpList_append_own _ hgd s x 24 ho B 29 i0 _ 2 16 Try.underlying24 hi hz0 hz1 hz2 rfl (by decide) _ 0 [] hs (CapY.nil B w) ad ys.length c (flatY ys) hx (flatY_len ys) hat.flat (flatY_one ys) (by unfold maxLen; omega) (by omega) hB ?_
    intro v' w1 hown1 hgrow _
    have hown' : w1.ownsRow B 29 2 v' ys.length (flatY ys) := by simpa using hown1
    obtain ⟨d, c', rfl⟩ := row_sliceF hown'
    exact h d c' w1 hown' ((Below.refl _ _).grown hgrow hB (fun k hk => by cases hk))
theorem atY_pre {w : World} {a : Option Addr} {R S : List (Int × Int)} (h : AtY w a (R ++ S)) : AtY w a R := by
  rcases h with e | ⟨b, off, e, h⟩
  · exact .inl (List.append_eq_nil_iff.1 e).1
  · refine .inr ⟨b, off, e, fun k hk => ?_⟩
    have := h k (by rw [List.length_append]; omega)
    rwa [nthY_app hk] at this
theorem flats_few (R : List (Int × Int)) : (if chkY R = 0 then flatsY R else []).length ≤ 2048 := by
  by_cases h : chkY R = 0
  · rw [if_pos h]
    unfold chkY at h
    by_cases q : flawY R ≠ 0
    · rw [if_pos q] at h; exact absurd h q
    · rw [if_neg q] at h
      by_cases k : 2048 < sumY R
      · rw [if_pos k] at h; exact absurd h (by decide)
      · unfold sumY at k; omega
  · rw [if_neg h]; exact Nat.zero_le _
set_option maxRecDepth 100000 in
set_option maxHeartbeats 8000000 in
theorem nestFlats_walk (a : Option Addr) (L c : Nat) (R : List (Int × Int)) (w : World) (h : ArgY w a L c R) : Calls Try.prog 4 #[.slice a L c] w fun e w' => e = .returned (.bool true) ∧ Below w.heap.size w w' := by
  have AW := hiddenN awake16
  obtain ⟨RE, hRE⟩ : ∃ Q : Ending → World → Prop, (fun e w' => e = .returned (.bool true) ∧ Below w.heap.size w w') = Q := ⟨_, rfl⟩
  rw [hRE]
  have HRE := hiddenN hRE
  have HA := hiddenN h
  have HL := hiddenN h.len
  have hroom : L * 16 ≤ 140737488351232 := by have := h.room; rwa [h.len] at this
  have hLI : (L : Int) ≤ 8796093021952 := by omega
  have FL : Hid (∀ u g cc, AtY u (some ⟨g, 0, none⟩) R → Calls Try.prog 13 #[.slice (some ⟨g, 0, none⟩) L cc] u (FlaE R u)) := fun u g cc hu => by
    have := flatZ_any (some ⟨g, 0, none⟩) R cc u hu (by rw [HL.out]; omega)
    rwa [HL.out] at this
  have RF : Hid (∀ u, Below w.heap.size w u → Calls Try.prog 14 #[.slice a L c] u (FlaE R u)) := fun u hu => by
    have := rflatY_any a R c u (HA.out.lies.below hu) (by rw [HL.out]; omega)
    rwa [HL.out] at this
  have SM : Hid (∀ u g cc, AtY u (some ⟨g, 0, none⟩) R → Below w.heap.size w u → Calls Try.prog 10 #[.slice (some ⟨g, 0, none⟩) L cc, .slice a L c] u fun e w' => e = .returned (.bool true) ∧ Below u.heap.size u w') := fun u g cc hu hb => by
    have := sameY_any (some ⟨g, 0, none⟩) a R cc c u hu (HA.out.lies.below hb) (by rw [HL.out]; omega)
    rwa [HL.out] at this
  unfold FlaE at FL RF
  have hlt := flats_few R
  obtain ⟨A, hA⟩ : ∃ q, (if chkY R = 0 then flatsY R else []) = q := ⟨_, rfl⟩
  rw [hA] at FL RF hlt
  obtain ⟨NA, hNA⟩ : ∃ q, A.length = q := ⟨_, rfl⟩
  rw [hNA] at FL RF hlt
  have HNA := hiddenN hNA
  obtain ⟨E, hE⟩ : ∃ q, chkY R = q := ⟨_, rfl⟩
  rw [hE] at FL RF
  have SI : Hid (∀ U x y cx cy, At U x A → At U y A → Calls Try.prog 15 #[.slice x NA cx, .slice y NA cy] U fun e w' => e = .returned (.bool true) ∧ Below U.heap.size U w') := fun U x y cx cy h1 h2 => by
    have := sameN U x y A cx cy (by rw [hNA]; omega) h1 h2
    rwa [hNA] at this
  have e1 : ((E : Int) != (E : Int)) = false := by simp
  clear hE hA hNA hRE h
  go_enter Try.func4, Try.ntmps4
  go_upto_region 3 with (at_builtin; refine wpList_appYI rfl _ _ rfl w.heap.size rfl a c R L HL.out rfl HA.out.none HA.out.lies (by omega) (Nat.le_refl _) ?_; intro d1 c1 W1 hc b; have C1 := hiddenN hc; have L1 := hiddenN b; clear hc b)
  have b2 := (Below.refl W1.heap.size W1).alloc (Nat.le_refl _) (.cells #[.int .i64 (-77), .int .i64 0] 29)
  have C2 := hiddenN (C1.out.later b2)
  have X2 := blkA_new 29 W1 #[.int .i64 (-77), .int .i64 0]
  have u0 := X2.cell (k := 0) rfl
  have u1 := X2.cell (k := 1) rfl
  simp only [List.getElem_toArray, List.getElem_cons_zero, List.getElem_cons_succ] at u0 u1
  have L2 := hiddenN (L1.out.trans (b2.mono L1.out.size))
  have hB2 : w.heap.size ≤ (W1.alloc (.cells #[.int .i64 (-77), .int .i64 0] 29)).heap.size := Nat.le_trans L1.out.size b2.size
  clear X2 b2
  go_upto_region 4 with (at_builtin; refine wpList_appYC rfl _ _ rfl w.heap.size d1 c1 R L HL.out rfl C2.out W1.heap.size (-77, 0) rfl u0 u1 (by omega) hB2 ?_; intro d3 c3 W3 hg; have C3 := hiddenN hg.own; have L3 := hiddenN (L2.out.trans (hg.below hB2 (fun y hy => (C2.out.lt y hy).1))); clear hg)
  obtain ⟨g, rfl⟩ := capY_some C3.out (by simp)
  have hcap : L + 1 ≤ c3 := by
    have q := C3.out
    rcases q.2 with ⟨hv, -⟩ | ⟨g1, cap, cur, hv, hg, hh, hc, r⟩
    · simp at hv
    · cases hv
      rw [List.length_append, HL.out] at hc
      exact hc
  have hc1 : L ≤ c3 := by omega
  have hc2 : (L : Int) ≤ (c3 : Int) := by omega
  have A3 := hiddenN (atY_pre C3.out.at)
  have hz : (L : Int) < (L : Int) + 1 := by omega
  have z3 := capY_cell0 C3.out (k := R.length) (by simp)
  rw [nthY_last, HL.out] at z3
  have Z3 := hiddenN z3
  clear C1 C2 L1 L2 u0 u1 hB2 z3 hcap
  go_upto_region 5 with (go_at_call 13; (with_reducible refine (FL.out W3 g c3 A3.out).mono ?_); rintro e V4 ⟨d4, k4, rfl, hc, b⟩; have B4 := hiddenN b; have P4 := hiddenN hc; have A4 := hiddenN (A3.out.below b); clear hc b)
  go_upto_region 6 with (go_at_call 13; (with_reducible refine (FL.out V4 g c3 A4.out).mono ?_); rintro e V5 ⟨d5, k5, rfl, hc, b⟩; have B5 := hiddenN (B4.out.trans (b.mono B4.out.size)); have Q5 := hiddenN hc; have P5 := hiddenN (P4.out.later b); have D4 : Hid (∀ x, d4 = some x → x.block < V4.heap.size) := (fun x hx => (P4.out.lt x hx).2); clear hc b)
  go_upto_region 7 with (go_at_call 14; (with_reducible refine (RF.out V5 (L3.out.trans (B5.out.mono L3.out.size))).mono ?_); rintro e V6 ⟨d6, k6, rfl, hc, b⟩; have B6 := hiddenN (B5.out.trans (b.mono B5.out.size)); have A6 := hiddenN hc.at; have P6 := hiddenN (P5.out.later b); have Q6 := hiddenN (Q5.out.later b); clear hc b)
  have H43 : Hid (W3.heap.size ≤ V4.heap.size) := B4.out.size
  clear P4 A4 Q5 P5 B4 B5
  go_upto_region 9 with (first
    | (go_at_call 15; (with_reducible refine (SI.out V7 d5 d6 k5 k6 Q7.out.at A7.out).mono ?_); rintro e V8 ⟨rfl, b⟩; have B8 := hiddenN (B7.out.trans (b.mono B7.out.size)); have P8 := hiddenN (P7.out.later b); have Q8 := hiddenN (Q7.out.later b); clear b)
    | (go_at_call 15; (with_reducible refine (SI.out V6 d4 d6 k4 k6 P6.out.at A6.out).mono ?_); rintro e V7 ⟨rfl, b⟩; have B7 := hiddenN (B6.out.trans (b.mono B6.out.size)); have A7 := hiddenN (A6.out.below b); have P7 := hiddenN (P6.out.later b); have Q7 := hiddenN (Q6.out.later b); clear b))
  have AW8 := hiddenN (AW.out V8)
  clear FL RF SI AW A6 P6 Q6 A7 P7 Q7 B6 B7
  go_wp2_with (first
    | (go_at_call 11; (with_reducible refine (AW8.out).mono ?_); rintro e V9 ⟨rfl, b⟩; have B9 := hiddenN (B8.out.trans (b.mono B8.out.size)); have AP9 := hiddenN (apart_duoZ (by rw [HNA.out]; omega) (by rw [HNA.out]; omega) (P8.out.later b) (Q8.out.later b) H43.out D4.out B9.out.size NA NA HNA.out HNA.out); clear b)
    | (go_at_call 16; (with_reducible refine (AP9.out).mono ?_); rintro e V10 ⟨rfl, b⟩; have B10 := hiddenN (B9.out.trans b); have L10 := hiddenN (L3.out.trans (B10.out.mono L3.out.size)); have SM10 := hiddenN (SM.out V10 g c3 (A3.out.below B10.out) L10.out); clear b)
    | (go_at_call 10; (with_reducible refine (SM10.out).mono ?_); rintro e V11 ⟨rfl, b⟩; have B11 := hiddenN (B10.out.trans (b.mono B10.out.size)); have L11 := hiddenN (L3.out.trans (B11.out.mono L3.out.size)); have z11 := (B11.out.cell (block_lt_of_cell Z3.out)).trans Z3.out; clear b))
  rw [← HRE.out]
  exact ⟨by first | rfl | simp, L11.out⟩
end Go.Proofs.Ytigaimkflngneaa

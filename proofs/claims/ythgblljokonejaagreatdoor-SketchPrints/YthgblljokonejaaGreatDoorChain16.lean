/- Texts of one chain, laid one behind the other. -/
import Derived.Test.YthgblljokonejaaGreatDoorChain14
import Derived.Test.YthgblljokonejaaGreatDoorChain15
import Derived.Laws.AppendOwnNone
/- Numbers put behind numbers; the drawn parts of the parser's edge. -/
namespace Go.Proofs.YthgblljokonejaaGreatDoor
open Go.ChangeShapes Go.WideShapes Go.ChangeAt Go.RowKit

theorem grown_none {w w' : World} (h : w.grownBy w' none) : Below w.heap.size w w' := ⟨h.os, h.tape, h.output, h.size, fun k hk => h.block k hk (fun e => by cases e)⟩
/-- A number put behind none. -/
theorem ints_more (base : Nat) (w : World) (b : Nat) (x : Int) (hc : w.cell? ⟨b, 0, none⟩ = some (.int .i64 x)) (hb : base ≤ w.heap.size) :
    ∃ r' w', (Builtin.append_ #[55, 55] 55 #[.slice none 0 0, .slice (some ⟨b, 0, none⟩) 1 1]).run Tryz.prog w = .ok r' w' ∧ Ints base w' r' [x] ∧ Below w.heap.size w w' := by
  obtain ⟨i0, hi, hz0, hz1, hz2⟩ := info_parts Tryz.info3'
  obtain ⟨r', w', hr, ho, hg, -⟩ := run_append_own (P := Tryz.prog) (w := w) base 55 55 3 i0 (.int .i64 0) 1 8 Tryz.underlying55 hi hz0 hz1 hz2 rfl (by decide) (.slice none 0 0) 0 [] (World.ownsRow_nil _ _ _ _) ⟨b, 0, none⟩ 1 1 [.int .i64 x] rfl (fun j u hu => by
    match j, hu with
    | 0, hu => simp at hu; subst hu; simpa [Addr.add] using hc) (int_one _) (by decide) (by decide) hb
  exact ⟨r', w', hr, ho, grown_none hg⟩
/-- Numbers put behind numbers. -/
theorem ints_append (base base2 : Nat) (w : World) (r q : Value) (ns ms : List Int) (h : Ints base w r ns) (h2 : Ints base2 w q ms) (hb : base ≤ w.heap.size) (hl : ns.length + ms.length ≤ 4000000) :
    ∃ r' w', (Builtin.append_ #[55, 55] 55 #[r, q]).run Tryz.prog w = .ok r' w' ∧ Ints base w' r' (ns ++ ms) ∧ w.grownBy w' r.ownBlock := by
  obtain ⟨i0, hi, hz0, hz1, hz2⟩ := info_parts Tryz.info3'
  rcases h2.2 with ⟨rfl, h0⟩ | ⟨g, cap, cur, rfl, -⟩
  · have e : ms = [] := List.eq_nil_of_length_eq_zero h0
    subst e
    refine ⟨r, w, run_append_owned_none (P := Tryz.prog) (w := w) base 55 55 3 i0 1 Tryz.underlying55 hi r _ _ h, by rw [List.append_nil]; exact h, rfl, rfl, rfl, Nat.le_refl _, fun _ _ _ => rfl⟩
  · obtain ⟨r', w', hr, ho, hg, -⟩ := run_append_own (P := Tryz.prog) (w := w) base 55 55 3 i0 (.int .i64 0) 1 8 Tryz.underlying55 hi hz0 hz1 hz2 rfl (by decide) r _ _ h ⟨g, 0, none⟩ ms.length cap (ms.map (Value.int .i64)) (by simp) (fun j u hu => World.ownsRow.cells h2 (g := g) rfl j u hu) (by
      intro u hu
      obtain ⟨y, -, rfl⟩ := List.mem_map.1 hu
      rfl) (by unfold maxLen; omega) (by omega) hb
    refine ⟨r', w', hr, ?_, hg⟩
    unfold Ints
    rw [List.length_append, List.map_append]
    exact ho
theorem own_lt {base : Nat} {w : World} {e : TypeId} {size n : Nat} {v : Value} {xs : List Value} (h : w.ownsRow base e size v n xs) : ∀ k, v.ownBlock = some k → k < w.heap.size := fun k hk => by
  rcases h.2 with ⟨rfl, -⟩ | ⟨g, c, cur, rfl, hg, hh, -⟩
  · cases hk
  · cases hk
    exact (Array.getElem?_eq_some_iff.1 hh).1
theorem Ints.kept {base w w' r ns} {row : Option Nat} (h : Ints base w r ns) (hg : w.grownBy w' row) (hr : ∀ k, row = some k → k < base) : Ints base w' r ns := by
  refine World.ownsRow.kept h hg ?_
  by_cases e : r.ownBlock = none
  · exact Or.inl e
  · refine Or.inr (fun e2 => ?_)
    cases hk : r.ownBlock with
    | none => exact e hk
    | some k =>
      have h1 := hr k (by rw [← e2, hk])
      exact owns_ne h h1 hk
end Go.Proofs.YthgblljokonejaaGreatDoor

/- The parser's edge: an item's own part. (Written by tmpl/mkS7.py.) -/
namespace Go.Proofs.YthgblljokonejaaGreatDoor
open Go.ChangeShapes Go.WideShapes Go.ChangeAt Go.RowKit

set_option maxRecDepth 100000 in
set_option maxHeartbeats 2000000 in
theorem edge_no2 (P : Nat) (v : Value) (ts : List Tok) (i : Nat) (W0 W : World) (I : Nat) (pl : Int) (_hpl : (nthT ts i).place = pl) (hG : Goes P v ts i W0 W) (hP0 : ∀ {n : Nat}, W0.heap.size ≤ n → v.ownBlock ≠ some n ∧ P ≠ n) (hI : W0.heap.size ≤ I) (hB : Blk 59 I W (itC 0 [] [] (.slice none 0 0) noPlc noPlc pl)) (hE : Ended ts) (hi : i < ts.length) (hl : ts.length ≤ 2000000) (j1 : Nat) (j2 : Nat) (h1 : textR ts [101, 100, 103, 101] i = (some (), j1)) (h2 : placeR ts j1 = (none, j2)) :
    Calls Tryz.prog 69 #[.pointer (some ⟨P, 0, none⟩), .pointer (some ⟨I, 0, none⟩)] W (BodyEnd P v ts W0 I (edgeR ts i)) := by
  have HM : edgeR ts i = (none, j2) := by unfold edgeR; rw [h1, then_some, h2, then_none]
  rw [HM]
  show Calls _ _ _ _ (fun e w' => e = .panicked tokPanic ∧ Goes P v ts j2 W0 w' ∧ j2 < ts.length)
  clear HM _hpl
  have HBK : Hid (v.ownBlock ≠ some I ∧ P ≠ I) := hP0 hI
  have HI := hidden hI
  have G0 := hidden hG
  have B0 := hidden hB
  clear hG hB hP0 hI
  have H1 : Hid (∀ w1, Par P v ts i w1 → Calls Tryz.prog 35 #[.pointer (some ⟨P, 0, none⟩), .string ⟨#[101, 100, 103, 101]⟩] w1 fun e w' => e = .returned (.tuple #[]) ∧ Goes P v ts j1 w1 w') := (expect_some h1 hE hi hl (by decide) P v).2
  have hj1 : j1 < ts.length := (expect_some h1 hE hi hl (by decide) P v).1
  have H2 : Hid (∀ w1, Par P v ts j1 w1 → Calls Tryz.prog 85 #[.pointer (some ⟨P, 0, none⟩)] w1 fun e w' => e = .panicked tokPanic ∧ Goes P v ts j2 w1 w') := (place_none h2 hE hj1 hl P v).2
  have hj2 : j2 < ts.length := (place_none h2 hE hj1 hl P v).1
  clear h1 h2
  go_enter Tryz.func69, Tryz.ntmps69
  go_wp2_with (first
    | (go_at_call 85; (with_reducible refine (H2.out _ G1.out.par).mono ?_); rintro e w2 ⟨rfl, hg⟩; have G2 := hidden (G1.out.trans hg); clear hg)
    | (go_at_call 35; (with_reducible refine (H1.out _ G0.out.par).mono ?_); rintro e w1 ⟨rfl, hg⟩; have Bk := (B0.out.grown hg.grown (fun e => HBK.out.2 (Option.some.inj e).symm)); have c1_0 := Bk.cell (k := 0) rfl; have f1_0 := Bk.frozen 0; have G1 := hidden ((G0.out.trans hg).put (k := 0) HBK.out HI.out (.int .u8 2)); have B1 : Hid (Blk 59 I (w1.setCell ⟨I, 0, none⟩ (.int .u8 2)) (itC 2 [] [] (.slice none 0 0) noPlc noPlc pl)) := (Bk.set 0 (.int .u8 2)); clear hg Bk))
  exact ⟨rfl, rfl, G2.out, hj2⟩

set_option maxRecDepth 100000 in
set_option maxHeartbeats 2000000 in
theorem edge_no3 (P : Nat) (v : Value) (ts : List Tok) (i : Nat) (W0 W : World) (I : Nat) (pl : Int) (_hpl : (nthT ts i).place = pl) (hG : Goes P v ts i W0 W) (hP0 : ∀ {n : Nat}, W0.heap.size ≤ n → v.ownBlock ≠ some n ∧ P ≠ n) (hI : W0.heap.size ≤ I) (hB : Blk 59 I W (itC 0 [] [] (.slice none 0 0) noPlc noPlc pl)) (hE : Ended ts) (hi : i < ts.length) (hl : ts.length ≤ 2000000) (j1 : Nat) (j2 : Nat) (p2 : Plc) (j3 : Nat) (h1 : textR ts [101, 100, 103, 101] i = (some (), j1)) (h2 : placeR ts j1 = (some p2, j2)) (h3 : textR ts [45, 62] j2 = (none, j3)) :
    Calls Tryz.prog 69 #[.pointer (some ⟨P, 0, none⟩), .pointer (some ⟨I, 0, none⟩)] W (BodyEnd P v ts W0 I (edgeR ts i)) := by
  have HM : edgeR ts i = (none, j3) := by unfold edgeR; rw [h1, then_some, h2, then_some, h3, then_none]
  rw [HM]
  show Calls _ _ _ _ (fun e w' => e = .panicked tokPanic ∧ Goes P v ts j3 W0 w' ∧ j3 < ts.length)
  clear HM _hpl
  have HBK : Hid (v.ownBlock ≠ some I ∧ P ≠ I) := hP0 hI
  have HI := hidden hI
  have G0 := hidden hG
  have B0 := hidden hB
  clear hG hB hP0 hI
  have H1 : Hid (∀ w1, Par P v ts i w1 → Calls Tryz.prog 35 #[.pointer (some ⟨P, 0, none⟩), .string ⟨#[101, 100, 103, 101]⟩] w1 fun e w' => e = .returned (.tuple #[]) ∧ Goes P v ts j1 w1 w') := (expect_some h1 hE hi hl (by decide) P v).2
  have hj1 : j1 < ts.length := (expect_some h1 hE hi hl (by decide) P v).1
  have H2 : Hid (∀ w1, Par P v ts j1 w1 → Calls Tryz.prog 85 #[.pointer (some ⟨P, 0, none⟩)] w1 fun e w' => e = .returned (.agg #[.string (str p2.name), .int .i64 p2.port, .int .i64 p2.place]) ∧ Goes P v ts j2 w1 w') := (place_some h2 hE hj1 hl P v).2
  have hj2 : j2 < ts.length := (place_some h2 hE hj1 hl P v).1
  have H3 : Hid (∀ w1, Par P v ts j2 w1 → Calls Tryz.prog 35 #[.pointer (some ⟨P, 0, none⟩), .string ⟨#[45, 62]⟩] w1 fun e w' => e = .panicked tokPanic ∧ Goes P v ts j3 w1 w') := (expect_none h3 hj2 hl P v).2
  have hj3 : j3 < ts.length := (expect_none h3 hj2 hl P v).1
  clear h1 h2 h3
  go_enter Tryz.func69, Tryz.ntmps69
  go_wp2_with (first
    | (go_at_call 35; (with_reducible refine (H3.out _ G2.out.par).mono ?_); rintro e w3 ⟨rfl, hg⟩; have G3 := hidden (G2.out.trans hg); clear hg)
    | (go_at_call 85; (with_reducible refine (H2.out _ G1.out.par).mono ?_); rintro e w2 ⟨rfl, hg⟩; have Bk := (B1.out.grown hg.grown (fun e => HBK.out.2 (Option.some.inj e).symm)); have c2_4 := Bk.cell (k := 4) rfl; have f2_4 := Bk.frozen 4; have c2_5 := Bk.cell (k := 5) rfl; have f2_5 := Bk.frozen 5; have c2_6 := Bk.cell (k := 6) rfl; have f2_6 := Bk.frozen 6; have G2 := hidden ((((G1.out.trans hg).put (k := 4) HBK.out HI.out (.string (str p2.name))).put (k := 5) HBK.out HI.out (.int .i64 p2.port)).put (k := 6) HBK.out HI.out (.int .i64 p2.place)); have B2 : Hid (Blk 59 I (((w2.setCell ⟨I, 4, none⟩ (.string (str p2.name))).setCell ⟨I, 5, none⟩ (.int .i64 p2.port)).setCell ⟨I, 6, none⟩ (.int .i64 p2.place)) (itC 2 [] [] (.slice none 0 0) p2 noPlc pl)) := (((Bk.set 4 (.string (str p2.name))).set 5 (.int .i64 p2.port)).set 6 (.int .i64 p2.place)); clear hg Bk)
    | (go_at_call 35; (with_reducible refine (H1.out _ G0.out.par).mono ?_); rintro e w1 ⟨rfl, hg⟩; have Bk := (B0.out.grown hg.grown (fun e => HBK.out.2 (Option.some.inj e).symm)); have c1_0 := Bk.cell (k := 0) rfl; have f1_0 := Bk.frozen 0; have G1 := hidden ((G0.out.trans hg).put (k := 0) HBK.out HI.out (.int .u8 2)); have B1 : Hid (Blk 59 I (w1.setCell ⟨I, 0, none⟩ (.int .u8 2)) (itC 2 [] [] (.slice none 0 0) noPlc noPlc pl)) := (Bk.set 0 (.int .u8 2)); clear hg Bk))
  exact ⟨rfl, rfl, G3.out, hj3⟩

set_option maxRecDepth 100000 in
set_option maxHeartbeats 2000000 in
theorem edge_no4 (P : Nat) (v : Value) (ts : List Tok) (i : Nat) (W0 W : World) (I : Nat) (pl : Int) (_hpl : (nthT ts i).place = pl) (hG : Goes P v ts i W0 W) (hP0 : ∀ {n : Nat}, W0.heap.size ≤ n → v.ownBlock ≠ some n ∧ P ≠ n) (hI : W0.heap.size ≤ I) (hB : Blk 59 I W (itC 0 [] [] (.slice none 0 0) noPlc noPlc pl)) (hE : Ended ts) (hi : i < ts.length) (hl : ts.length ≤ 2000000) (j1 : Nat) (j2 : Nat) (p2 : Plc) (j3 : Nat) (j4 : Nat) (h1 : textR ts [101, 100, 103, 101] i = (some (), j1)) (h2 : placeR ts j1 = (some p2, j2)) (h3 : textR ts [45, 62] j2 = (some (), j3)) (h4 : placeR ts j3 = (none, j4)) :
    Calls Tryz.prog 69 #[.pointer (some ⟨P, 0, none⟩), .pointer (some ⟨I, 0, none⟩)] W (BodyEnd P v ts W0 I (edgeR ts i)) := by
  have HM : edgeR ts i = (none, j4) := by unfold edgeR; rw [h1, then_some, h2, then_some, h3, then_some, h4, then_none]
  rw [HM]
  show Calls _ _ _ _ (fun e w' => e = .panicked tokPanic ∧ Goes P v ts j4 W0 w' ∧ j4 < ts.length)
  clear HM _hpl
  have HBK : Hid (v.ownBlock ≠ some I ∧ P ≠ I) := hP0 hI
  have HI := hidden hI
  have G0 := hidden hG
  have B0 := hidden hB
  clear hG hB hP0 hI
  have H1 : Hid (∀ w1, Par P v ts i w1 → Calls Tryz.prog 35 #[.pointer (some ⟨P, 0, none⟩), .string ⟨#[101, 100, 103, 101]⟩] w1 fun e w' => e = .returned (.tuple #[]) ∧ Goes P v ts j1 w1 w') := (expect_some h1 hE hi hl (by decide) P v).2
  have hj1 : j1 < ts.length := (expect_some h1 hE hi hl (by decide) P v).1
  have H2 : Hid (∀ w1, Par P v ts j1 w1 → Calls Tryz.prog 85 #[.pointer (some ⟨P, 0, none⟩)] w1 fun e w' => e = .returned (.agg #[.string (str p2.name), .int .i64 p2.port, .int .i64 p2.place]) ∧ Goes P v ts j2 w1 w') := (place_some h2 hE hj1 hl P v).2
  have hj2 : j2 < ts.length := (place_some h2 hE hj1 hl P v).1
  have H3 : Hid (∀ w1, Par P v ts j2 w1 → Calls Tryz.prog 35 #[.pointer (some ⟨P, 0, none⟩), .string ⟨#[45, 62]⟩] w1 fun e w' => e = .returned (.tuple #[]) ∧ Goes P v ts j3 w1 w') := (expect_some h3 hE hj2 hl (by decide) P v).2
  have hj3 : j3 < ts.length := (expect_some h3 hE hj2 hl (by decide) P v).1
  have H4 : Hid (∀ w1, Par P v ts j3 w1 → Calls Tryz.prog 85 #[.pointer (some ⟨P, 0, none⟩)] w1 fun e w' => e = .panicked tokPanic ∧ Goes P v ts j4 w1 w') := (place_none h4 hE hj3 hl P v).2
  have hj4 : j4 < ts.length := (place_none h4 hE hj3 hl P v).1
  clear h1 h2 h3 h4
  go_enter Tryz.func69, Tryz.ntmps69
  go_wp2_with (first
    | (go_at_call 85; (with_reducible refine (H4.out _ G3.out.par).mono ?_); rintro e w4 ⟨rfl, hg⟩; have G4 := hidden (G3.out.trans hg); clear hg)
    | (go_at_call 35; (with_reducible refine (H3.out _ G2.out.par).mono ?_); rintro e w3 ⟨rfl, hg⟩; have Bk := (B2.out.grown hg.grown (fun e => HBK.out.2 (Option.some.inj e).symm)); have G3 := hidden (G2.out.trans hg); have B3 : Hid (Blk 59 I w3 (itC 2 [] [] (.slice none 0 0) p2 noPlc pl)) := Bk; clear hg Bk)
    | (go_at_call 85; (with_reducible refine (H2.out _ G1.out.par).mono ?_); rintro e w2 ⟨rfl, hg⟩; have Bk := (B1.out.grown hg.grown (fun e => HBK.out.2 (Option.some.inj e).symm)); have c2_4 := Bk.cell (k := 4) rfl; have f2_4 := Bk.frozen 4; have c2_5 := Bk.cell (k := 5) rfl; have f2_5 := Bk.frozen 5; have c2_6 := Bk.cell (k := 6) rfl; have f2_6 := Bk.frozen 6; have G2 := hidden ((((G1.out.trans hg).put (k := 4) HBK.out HI.out (.string (str p2.name))).put (k := 5) HBK.out HI.out (.int .i64 p2.port)).put (k := 6) HBK.out HI.out (.int .i64 p2.place)); have B2 : Hid (Blk 59 I (((w2.setCell ⟨I, 4, none⟩ (.string (str p2.name))).setCell ⟨I, 5, none⟩ (.int .i64 p2.port)).setCell ⟨I, 6, none⟩ (.int .i64 p2.place)) (itC 2 [] [] (.slice none 0 0) p2 noPlc pl)) := (((Bk.set 4 (.string (str p2.name))).set 5 (.int .i64 p2.port)).set 6 (.int .i64 p2.place)); clear hg Bk)
    | (go_at_call 35; (with_reducible refine (H1.out _ G0.out.par).mono ?_); rintro e w1 ⟨rfl, hg⟩; have Bk := (B0.out.grown hg.grown (fun e => HBK.out.2 (Option.some.inj e).symm)); have c1_0 := Bk.cell (k := 0) rfl; have f1_0 := Bk.frozen 0; have G1 := hidden ((G0.out.trans hg).put (k := 0) HBK.out HI.out (.int .u8 2)); have B1 : Hid (Blk 59 I (w1.setCell ⟨I, 0, none⟩ (.int .u8 2)) (itC 2 [] [] (.slice none 0 0) noPlc noPlc pl)) := (Bk.set 0 (.int .u8 2)); clear hg Bk))
  exact ⟨rfl, rfl, G4.out, hj4⟩

set_option maxRecDepth 100000 in
set_option maxHeartbeats 2000000 in
theorem edge_plain (P : Nat) (v : Value) (ts : List Tok) (i : Nat) (W0 W : World) (I : Nat) (pl : Int) (hpl : (nthT ts i).place = pl) (hG : Goes P v ts i W0 W) (hP0 : ∀ {n : Nat}, W0.heap.size ≤ n → v.ownBlock ≠ some n ∧ P ≠ n) (hI : W0.heap.size ≤ I) (hB : Blk 59 I W (itC 0 [] [] (.slice none 0 0) noPlc noPlc pl)) (hE : Ended ts) (hi : i < ts.length) (hl : ts.length ≤ 2000000) (j1 : Nat) (j2 : Nat) (p2 : Plc) (j3 : Nat) (j4 : Nat) (p4 : Plc) (h1 : textR ts [101, 100, 103, 101] i = (some (), j1)) (h2 : placeR ts j1 = (some p2, j2)) (h3 : textR ts [45, 62] j2 = (some (), j3)) (h4 : placeR ts j3 = (some p4, j4)) (hw : (nthT ts j4).text ≠ [119, 105, 116, 104]) :
    Calls Tryz.prog 69 #[.pointer (some ⟨P, 0, none⟩), .pointer (some ⟨I, 0, none⟩)] W (BodyEnd P v ts W0 I (edgeR ts i)) := by
  have HM : edgeR ts i = (some ⟨2, [], [], [], p2, p4, pl⟩, j4) := by unfold edgeR withR; rw [h1, then_some, h2, then_some, h3, then_some, h4, then_some, if_neg hw, then_some, hpl]
  rw [HM]
  show Calls _ _ _ _ (fun e w' => e = .returned (.tuple #[]) ∧ (∃ ns, Blk 59 I w' (itC 2 [] [] ns p2 p4 pl) ∧ Ints W0.heap.size w' ns []) ∧ Goes P v ts j4 W0 w' ∧ j4 < ts.length)
  clear HM hpl
  have HBK : Hid (v.ownBlock ≠ some I ∧ P ≠ I) := hP0 hI
  have HI := hidden hI
  have G0 := hidden hG
  have B0 := hidden hB
  clear hG hB hP0 hI
  have H1 : Hid (∀ w1, Par P v ts i w1 → Calls Tryz.prog 35 #[.pointer (some ⟨P, 0, none⟩), .string ⟨#[101, 100, 103, 101]⟩] w1 fun e w' => e = .returned (.tuple #[]) ∧ Goes P v ts j1 w1 w') := (expect_some h1 hE hi hl (by decide) P v).2
  have hj1 : j1 < ts.length := (expect_some h1 hE hi hl (by decide) P v).1
  have H2 : Hid (∀ w1, Par P v ts j1 w1 → Calls Tryz.prog 85 #[.pointer (some ⟨P, 0, none⟩)] w1 fun e w' => e = .returned (.agg #[.string (str p2.name), .int .i64 p2.port, .int .i64 p2.place]) ∧ Goes P v ts j2 w1 w') := (place_some h2 hE hj1 hl P v).2
  have hj2 : j2 < ts.length := (place_some h2 hE hj1 hl P v).1
  have H3 : Hid (∀ w1, Par P v ts j2 w1 → Calls Tryz.prog 35 #[.pointer (some ⟨P, 0, none⟩), .string ⟨#[45, 62]⟩] w1 fun e w' => e = .returned (.tuple #[]) ∧ Goes P v ts j3 w1 w') := (expect_some h3 hE hj2 hl (by decide) P v).2
  have hj3 : j3 < ts.length := (expect_some h3 hE hj2 hl (by decide) P v).1
  have H4 : Hid (∀ w1, Par P v ts j3 w1 → Calls Tryz.prog 85 #[.pointer (some ⟨P, 0, none⟩)] w1 fun e w' => e = .returned (.agg #[.string (str p4.name), .int .i64 p4.port, .int .i64 p4.place]) ∧ Goes P v ts j4 w1 w') := (place_some h4 hE hj3 hl P v).2
  have hj4 : j4 < ts.length := (place_some h4 hE hj3 hl P v).1
  have HSY : Hid (∀ w1, Par P v ts j4 w1 → Calls Tryz.prog 37 #[.pointer (some ⟨P, 0, none⟩), .string ⟨#[119, 105, 116, 104]⟩] w1 fun e w' => e = .returned (.bool false) ∧ Below w1.heap.size w1 w') := fun w1 q => by
    have := says_at P v ts j4 w1 q hj4 hl [119, 105, 116, 104]
    rw [decide_eq_false hw] at this
    exact this
  clear hw
  clear h1 h2 h3 h4
  go_enter Tryz.func69, Tryz.ntmps69
  go_wp2_with (first
    | (go_at_call 37; (with_reducible refine (HSY.out _ G4.out.par).mono ?_); rintro e w5 ⟨rfl, hb⟩; have G5 := hidden (G4.out.later hb); have B5 := hidden (B4.out.below hb); clear hb)
    | (go_at_call 85; (with_reducible refine (H4.out _ G3.out.par).mono ?_); rintro e w4 ⟨rfl, hg⟩; have Bk := (B3.out.grown hg.grown (fun e => HBK.out.2 (Option.some.inj e).symm)); have c4_7 := Bk.cell (k := 7) rfl; have f4_7 := Bk.frozen 7; have c4_8 := Bk.cell (k := 8) rfl; have f4_8 := Bk.frozen 8; have c4_9 := Bk.cell (k := 9) rfl; have f4_9 := Bk.frozen 9; have G4 := hidden ((((G3.out.trans hg).put (k := 7) HBK.out HI.out (.string (str p4.name))).put (k := 8) HBK.out HI.out (.int .i64 p4.port)).put (k := 9) HBK.out HI.out (.int .i64 p4.place)); have B4 : Hid (Blk 59 I (((w4.setCell ⟨I, 7, none⟩ (.string (str p4.name))).setCell ⟨I, 8, none⟩ (.int .i64 p4.port)).setCell ⟨I, 9, none⟩ (.int .i64 p4.place)) (itC 2 [] [] (.slice none 0 0) p2 p4 pl)) := (((Bk.set 7 (.string (str p4.name))).set 8 (.int .i64 p4.port)).set 9 (.int .i64 p4.place)); clear hg Bk)
    | (go_at_call 35; (with_reducible refine (H3.out _ G2.out.par).mono ?_); rintro e w3 ⟨rfl, hg⟩; have Bk := (B2.out.grown hg.grown (fun e => HBK.out.2 (Option.some.inj e).symm)); have G3 := hidden (G2.out.trans hg); have B3 : Hid (Blk 59 I w3 (itC 2 [] [] (.slice none 0 0) p2 noPlc pl)) := Bk; clear hg Bk)
    | (go_at_call 85; (with_reducible refine (H2.out _ G1.out.par).mono ?_); rintro e w2 ⟨rfl, hg⟩; have Bk := (B1.out.grown hg.grown (fun e => HBK.out.2 (Option.some.inj e).symm)); have c2_4 := Bk.cell (k := 4) rfl; have f2_4 := Bk.frozen 4; have c2_5 := Bk.cell (k := 5) rfl; have f2_5 := Bk.frozen 5; have c2_6 := Bk.cell (k := 6) rfl; have f2_6 := Bk.frozen 6; have G2 := hidden ((((G1.out.trans hg).put (k := 4) HBK.out HI.out (.string (str p2.name))).put (k := 5) HBK.out HI.out (.int .i64 p2.port)).put (k := 6) HBK.out HI.out (.int .i64 p2.place)); have B2 : Hid (Blk 59 I (((w2.setCell ⟨I, 4, none⟩ (.string (str p2.name))).setCell ⟨I, 5, none⟩ (.int .i64 p2.port)).setCell ⟨I, 6, none⟩ (.int .i64 p2.place)) (itC 2 [] [] (.slice none 0 0) p2 noPlc pl)) := (((Bk.set 4 (.string (str p2.name))).set 5 (.int .i64 p2.port)).set 6 (.int .i64 p2.place)); clear hg Bk)
    | (go_at_call 35; (with_reducible refine (H1.out _ G0.out.par).mono ?_); rintro e w1 ⟨rfl, hg⟩; have Bk := (B0.out.grown hg.grown (fun e => HBK.out.2 (Option.some.inj e).symm)); have c1_0 := Bk.cell (k := 0) rfl; have f1_0 := Bk.frozen 0; have G1 := hidden ((G0.out.trans hg).put (k := 0) HBK.out HI.out (.int .u8 2)); have B1 : Hid (Blk 59 I (w1.setCell ⟨I, 0, none⟩ (.int .u8 2)) (itC 2 [] [] (.slice none 0 0) noPlc noPlc pl)) := (Bk.set 0 (.int .u8 2)); clear hg Bk))
  go_end0
  exact ⟨rfl, ⟨_, B5.out, World.ownsRow_nil _ _ _ _⟩, G5.out, hj4⟩

set_option maxRecDepth 100000 in
set_option maxHeartbeats 2000000 in
theorem edge_noNum (P : Nat) (v : Value) (ts : List Tok) (i : Nat) (W0 W : World) (I : Nat) (pl : Int) (_hpl : (nthT ts i).place = pl) (hG : Goes P v ts i W0 W) (hP0 : ∀ {n : Nat}, W0.heap.size ≤ n → v.ownBlock ≠ some n ∧ P ≠ n) (hI : W0.heap.size ≤ I) (hB : Blk 59 I W (itC 0 [] [] (.slice none 0 0) noPlc noPlc pl)) (hE : Ended ts) (hi : i < ts.length) (hl : ts.length ≤ 2000000) (j1 : Nat) (j2 : Nat) (p2 : Plc) (j3 : Nat) (j4 : Nat) (p4 : Plc) (j6 : Nat) (h1 : textR ts [101, 100, 103, 101] i = (some (), j1)) (h2 : placeR ts j1 = (some p2, j2)) (h3 : textR ts [45, 62] j2 = (some (), j3)) (h4 : placeR ts j3 = (some p4, j4)) (hw : (nthT ts j4).text = [119, 105, 116, 104]) (hx : numR ts (j4 + 1) = (none, j6)) :
    Calls Tryz.prog 69 #[.pointer (some ⟨P, 0, none⟩), .pointer (some ⟨I, 0, none⟩)] W (BodyEnd P v ts W0 I (edgeR ts i)) := by
  have HM : edgeR ts i = (none, j6) := by unfold edgeR withR; rw [h1, then_some, h2, then_some, h3, then_some, h4, then_some, if_pos hw, hx, then_none, then_none]
  rw [HM]
  show Calls _ _ _ _ (fun e w' => e = .panicked tokPanic ∧ Goes P v ts j6 W0 w' ∧ j6 < ts.length)
  clear HM _hpl
  have HBK : Hid (v.ownBlock ≠ some I ∧ P ≠ I) := hP0 hI
  have HI := hidden hI
  have G0 := hidden hG
  have B0 := hidden hB
  clear hG hB hP0 hI
  have H1 : Hid (∀ w1, Par P v ts i w1 → Calls Tryz.prog 35 #[.pointer (some ⟨P, 0, none⟩), .string ⟨#[101, 100, 103, 101]⟩] w1 fun e w' => e = .returned (.tuple #[]) ∧ Goes P v ts j1 w1 w') := (expect_some h1 hE hi hl (by decide) P v).2
  have hj1 : j1 < ts.length := (expect_some h1 hE hi hl (by decide) P v).1
  have H2 : Hid (∀ w1, Par P v ts j1 w1 → Calls Tryz.prog 85 #[.pointer (some ⟨P, 0, none⟩)] w1 fun e w' => e = .returned (.agg #[.string (str p2.name), .int .i64 p2.port, .int .i64 p2.place]) ∧ Goes P v ts j2 w1 w') := (place_some h2 hE hj1 hl P v).2
  have hj2 : j2 < ts.length := (place_some h2 hE hj1 hl P v).1
  have H3 : Hid (∀ w1, Par P v ts j2 w1 → Calls Tryz.prog 35 #[.pointer (some ⟨P, 0, none⟩), .string ⟨#[45, 62]⟩] w1 fun e w' => e = .returned (.tuple #[]) ∧ Goes P v ts j3 w1 w') := (expect_some h3 hE hj2 hl (by decide) P v).2
  have hj3 : j3 < ts.length := (expect_some h3 hE hj2 hl (by decide) P v).1
  have H4 : Hid (∀ w1, Par P v ts j3 w1 → Calls Tryz.prog 85 #[.pointer (some ⟨P, 0, none⟩)] w1 fun e w' => e = .returned (.agg #[.string (str p4.name), .int .i64 p4.port, .int .i64 p4.place]) ∧ Goes P v ts j4 w1 w') := (place_some h4 hE hj3 hl P v).2
  have hj4 : j4 < ts.length := (place_some h4 hE hj3 hl P v).1
  have HSY : Hid (∀ w1, Par P v ts j4 w1 → Calls Tryz.prog 37 #[.pointer (some ⟨P, 0, none⟩), .string ⟨#[119, 105, 116, 104]⟩] w1 fun e w' => e = .returned (.bool true) ∧ Below w1.heap.size w1 w') := fun w1 q => by
    have := says_at P v ts j4 w1 q hj4 hl [119, 105, 116, 104]
    rw [decide_eq_true hw] at this
    exact this
  have hj5 : j4 + 1 < ts.length := hE.text_lt hj4 (by decide) hw
  have HPA : Hid (∀ w1, Par P v ts j4 w1 → Calls Tryz.prog 72 #[.pointer (some ⟨P, 0, none⟩)] w1 fun e w' => e = .returned (tokV (nthT ts j4)) ∧ Goes P v ts (j4 + 1) w1 w') := fun w1 q => pass_at P v ts j4 w1 q hj4 hl
  have hj6 := (number_none hx hj5 hl P v).1
  have H6 := (number_none hx hj5 hl P v).2
  have x : Int := 0
  clear hw hx
  clear h1 h2 h3 h4
  go_enter Tryz.func69, Tryz.ntmps69
  go_wp2_with (first
    | (go_at_call 72; (with_reducible refine (HPA.out _ G5.out.par).mono ?_); rintro e w6 ⟨rfl, hg⟩; have G6 := hidden (G5.out.trans hg); have B6 := hidden (B5.out.grown hg.grown (fun e => HBK.out.2 (Option.some.inj e).symm)); clear hg)
    | (go_at_call 37; (with_reducible refine (HSY.out _ G4.out.par).mono ?_); rintro e w5 ⟨rfl, hb⟩; have G5 := hidden (G4.out.later hb); have B5 := hidden (B4.out.below hb); clear hb)
    | (go_at_call 85; (with_reducible refine (H4.out _ G3.out.par).mono ?_); rintro e w4 ⟨rfl, hg⟩; have Bk := (B3.out.grown hg.grown (fun e => HBK.out.2 (Option.some.inj e).symm)); have c4_7 := Bk.cell (k := 7) rfl; have f4_7 := Bk.frozen 7; have c4_8 := Bk.cell (k := 8) rfl; have f4_8 := Bk.frozen 8; have c4_9 := Bk.cell (k := 9) rfl; have f4_9 := Bk.frozen 9; have G4 := hidden ((((G3.out.trans hg).put (k := 7) HBK.out HI.out (.string (str p4.name))).put (k := 8) HBK.out HI.out (.int .i64 p4.port)).put (k := 9) HBK.out HI.out (.int .i64 p4.place)); have B4 : Hid (Blk 59 I (((w4.setCell ⟨I, 7, none⟩ (.string (str p4.name))).setCell ⟨I, 8, none⟩ (.int .i64 p4.port)).setCell ⟨I, 9, none⟩ (.int .i64 p4.place)) (itC 2 [] [] (.slice none 0 0) p2 p4 pl)) := (((Bk.set 7 (.string (str p4.name))).set 8 (.int .i64 p4.port)).set 9 (.int .i64 p4.place)); clear hg Bk)
    | (go_at_call 35; (with_reducible refine (H3.out _ G2.out.par).mono ?_); rintro e w3 ⟨rfl, hg⟩; have Bk := (B2.out.grown hg.grown (fun e => HBK.out.2 (Option.some.inj e).symm)); have G3 := hidden (G2.out.trans hg); have B3 : Hid (Blk 59 I w3 (itC 2 [] [] (.slice none 0 0) p2 noPlc pl)) := Bk; clear hg Bk)
    | (go_at_call 85; (with_reducible refine (H2.out _ G1.out.par).mono ?_); rintro e w2 ⟨rfl, hg⟩; have Bk := (B1.out.grown hg.grown (fun e => HBK.out.2 (Option.some.inj e).symm)); have c2_4 := Bk.cell (k := 4) rfl; have f2_4 := Bk.frozen 4; have c2_5 := Bk.cell (k := 5) rfl; have f2_5 := Bk.frozen 5; have c2_6 := Bk.cell (k := 6) rfl; have f2_6 := Bk.frozen 6; have G2 := hidden ((((G1.out.trans hg).put (k := 4) HBK.out HI.out (.string (str p2.name))).put (k := 5) HBK.out HI.out (.int .i64 p2.port)).put (k := 6) HBK.out HI.out (.int .i64 p2.place)); have B2 : Hid (Blk 59 I (((w2.setCell ⟨I, 4, none⟩ (.string (str p2.name))).setCell ⟨I, 5, none⟩ (.int .i64 p2.port)).setCell ⟨I, 6, none⟩ (.int .i64 p2.place)) (itC 2 [] [] (.slice none 0 0) p2 noPlc pl)) := (((Bk.set 4 (.string (str p2.name))).set 5 (.int .i64 p2.port)).set 6 (.int .i64 p2.place)); clear hg Bk)
    | (go_at_call 35; (with_reducible refine (H1.out _ G0.out.par).mono ?_); rintro e w1 ⟨rfl, hg⟩; have Bk := (B0.out.grown hg.grown (fun e => HBK.out.2 (Option.some.inj e).symm)); have c1_0 := Bk.cell (k := 0) rfl; have f1_0 := Bk.frozen 0; have G1 := hidden ((G0.out.trans hg).put (k := 0) HBK.out HI.out (.int .u8 2)); have B1 : Hid (Blk 59 I (w1.setCell ⟨I, 0, none⟩ (.int .u8 2)) (itC 2 [] [] (.slice none 0 0) noPlc noPlc pl)) := (Bk.set 0 (.int .u8 2)); clear hg Bk))
  refine wp_region_pan [6, 11] (fun d i u z => match i with
      | 0 => z = .pointer (some ⟨I, 0, none⟩)
      | 1 => z = .pointer (some ⟨I, 0, none⟩)
      | 2 => z = .pointer (some ⟨I, 0, none⟩)
      | 3 => z = .pointer (some ⟨I, 3, none⟩)
      | 4 => z = .slice none 0 0
      | 5 => z = .pointer (some ⟨P, 0, none⟩)
      | 6 => False
      | 7 => False
      | 8 => False
      | 9 => False
      | 10 => False
      | 11 => True
      | _ => True) (fun d u => (d 6 = true → Goes P v ts j6 W0 u) ∧ (d 6 = false → Goes P v ts (j4 + 1) W0 u) ∧ (d 11 = true → ∃ ns, Blk 59 I u (itC 2 [] [] ns p2 p4 pl) ∧ Ints w6.heap.size u ns [x]) ∧ (d 11 = false → Blk 59 I u (itC 2 [] [] (.slice none 0 0) p2 p4 pl)) ∧ w6.heap.size ≤ u.heap.size) (Z := fun c u => c = tokPanic ∧ Goes P v ts j6 W0 u) ?_ (by kernel_rfl) (by kernel_rfl) (by kernel_rfl) ?_ ?_ ?_ ?_ ?_ ?_ (by kernel_rfl)
  · rintro c a' w' hd ⟨rfl, hz⟩
    exact ⟨hd, rfl, hz, hj6⟩
  · intro d i w v w' h hb
    match i, h with
    | 0, h => exact h
    | 1, h => exact h
    | 2, h => exact h
    | 3, h => exact h
    | 4, h => exact h
    | 5, h => exact h
    | 6, h => exact h
    | 7, h => exact h
    | 8, h => exact h
    | 9, h => exact h
    | 10, h => exact h
    | 11, h => exact h
    | _ + 12, _ => trivial
  · intro d u u' h hb
    exact ⟨fun h1 => (h.1 h1).later hb, fun h1 => (h.2.1 h1).later hb, fun h1 => by { obtain ⟨ns, q1, q2⟩ := h.2.2.1 h1; exact ⟨ns, q1.below hb, q2.below hb⟩ }, fun h1 => (h.2.2.2.1 h1).below hb, Nat.le_trans h.2.2.2.2 hb.size⟩
  · exact ⟨fun h => absurd h (by decide), fun _ => G6.out, fun h => absurd h (by decide), fun _ => B6.out, Nat.le_refl _⟩
  · intro d i o ρ w' hm ho hf hg hC hcs hfs hfr hdep
    match i, hm, ho, hf, hg, hfr, hdep with
    | 0, _, ho, hf, hg, hfr, hdep =>
      simp only [List.getElem?_toArray, List.getElem?_cons_zero, Option.some.injEq] at ho
      subst ho
      refine ⟨fun _ => ?_, fun hw => absurd (show true = false from hw) (by decide)⟩
      have ts : ρ (.tmp 1) = .pointer (some ⟨I, 0, none⟩) := hfr 1 (by kernel_rfl)
      simp [go_sem, ts]
      exact ⟨Below.refl _ _, rfl⟩
    | 1, _, ho, hf, hg, hfr, hdep =>
      simp only [List.getElem?_toArray, List.getElem?_cons_zero, List.getElem?_cons_succ, Option.some.injEq] at ho
      subst ho
      refine ⟨fun _ => ?_, fun hw => absurd (show true = false from hw) (by decide)⟩
      have ts : ρ (.tmp 1) = .pointer (some ⟨I, 0, none⟩) := hfr 1 (by kernel_rfl)
      simp [go_sem, ts]
      exact ⟨Below.refl _ _, rfl⟩
    | 2, _, ho, hf, hg, hfr, hdep =>
      simp only [List.getElem?_toArray, List.getElem?_cons_zero, List.getElem?_cons_succ, Option.some.injEq] at ho
      subst ho
      refine ⟨fun _ => ?_, fun hw => absurd (show true = false from hw) (by decide)⟩
      have d0 : ρ (.tmp 30) = .pointer (some ⟨I, 0, none⟩) := hdep 1 30 (by kernel_rfl) (by kernel_rfl)
      simp [go_sem, d0]
      exact ⟨Below.refl _ _, rfl⟩
    | 3, _, ho, hf, hg, hfr, hdep =>
      simp only [List.getElem?_toArray, List.getElem?_cons_zero, List.getElem?_cons_succ, Option.some.injEq] at ho
      subst ho
      refine ⟨fun _ => ?_, fun hw => absurd (show true = false from hw) (by decide)⟩
      have d0 : ρ (.tmp 31) = .pointer (some ⟨I, 0, none⟩) := hdep 2 31 (by kernel_rfl) (by kernel_rfl)
      simp [go_sem, d0]
      exact ⟨Below.refl _ _, rfl⟩
    | 4, _, ho, hf, hg, hfr, hdep =>
      simp only [List.getElem?_toArray, List.getElem?_cons_zero, List.getElem?_cons_succ, Option.some.injEq] at ho
      subst ho
      refine ⟨fun _ => ?_, fun hw => absurd (show true = false from hw) (by decide)⟩
      have Bk := hC.2.2.2.1 (hf 11 (by decide) (by kernel_rfl))
      have c3 : w'.cell? ⟨I, 3, none⟩ = some (.slice none 0 0) := Bk.cell (k := 3) rfl
      have d0 : ρ (.tmp 32) = .pointer (some ⟨I, 3, none⟩) := hdep 3 32 (by kernel_rfl) (by kernel_rfl)
      simp [go_sem, d0, c3]
      exact ⟨Below.refl _ _, rfl⟩
    | 5, _, ho, hf, hg, hfr, hdep =>
      simp only [List.getElem?_toArray, List.getElem?_cons_zero, List.getElem?_cons_succ, Option.some.injEq] at ho
      subst ho
      refine ⟨fun _ => ?_, fun hw => absurd (show true = false from hw) (by decide)⟩
      have ts : ρ (.tmp 0) = .pointer (some ⟨P, 0, none⟩) := hfr 0 (by kernel_rfl)
      simp [go_sem, ts]
      exact ⟨Below.refl _ _, rfl⟩
    | 6, hm, _, _, _, _, _ => exact absurd hm (by decide)
    | 7, _, ho, hf, hg, hfr, hdep =>
      simp only [List.getElem?_toArray, List.getElem?_cons_zero, List.getElem?_cons_succ, Option.some.injEq] at ho
      subst ho
      refine ⟨fun _ => ?_, fun hw => absurd (show true = false from hw) (by decide)⟩
      exact (hdep 6 35 (by kernel_rfl) (by kernel_rfl)).elim
    | 8, _, ho, hf, hg, hfr, hdep =>
      simp only [List.getElem?_toArray, List.getElem?_cons_zero, List.getElem?_cons_succ, Option.some.injEq] at ho
      subst ho
      refine ⟨fun _ => ?_, fun hw => absurd (show true = false from hw) (by decide)⟩
      exact (hdep 7 36 (by kernel_rfl) (by kernel_rfl)).elim
    | 9, _, ho, hf, hg, hfr, hdep =>
      simp only [List.getElem?_toArray, List.getElem?_cons_zero, List.getElem?_cons_succ, Option.some.injEq] at ho
      subst ho
      refine ⟨fun _ => ?_, fun hw => absurd (show true = false from hw) (by decide)⟩
      exact (hdep 8 37 (by kernel_rfl) (by kernel_rfl)).elim
    | 10, _, ho, hf, hg, hfr, hdep =>
      simp only [List.getElem?_toArray, List.getElem?_cons_zero, List.getElem?_cons_succ, Option.some.injEq] at ho
      subst ho
      refine ⟨fun _ => ?_, fun hw => absurd (show true = false from hw) (by decide)⟩
      exact (hdep 9 38 (by kernel_rfl) (by kernel_rfl)).elim
    | 11, hm, _, _, _, _, _ => exact absurd hm (by decide)
    | n + 12, _, ho, _, _, _, _ => simp at ho
  · intro d i o ρ w' hm ho h0 hf hg hC hcs hfs hfr hdep
    match i, hm, ho, h0, hf, hg, hfr, hdep with
    | 0, hm, _, _, _, _, _, _ => exact absurd hm (by decide)
    | 1, hm, _, _, _, _, _, _ => exact absurd hm (by decide)
    | 2, hm, _, _, _, _, _, _ => exact absurd hm (by decide)
    | 3, hm, _, _, _, _, _, _ => exact absurd hm (by decide)
    | 4, hm, _, _, _, _, _, _ => exact absurd hm (by decide)
    | 5, hm, _, _, _, _, _, _ => exact absurd hm (by decide)
    | 6, _, ho, h0, hf, hg, hfr, hdep =>
      simp only [List.getElem?_toArray, List.getElem?_cons_zero, List.getElem?_cons_succ, Option.some.injEq] at ho
      subst ho
      refine ⟨rfl, ?_⟩
      have ts : ρ (.tmp 34) = .pointer (some ⟨P, 0, none⟩) := hdep 5 34 (by kernel_rfl) (by kernel_rfl)
      simp [go_sem, ts, hfs]
      refine ⟨rfl, (H6.out _ (hC.2.1 h0).par).mono ?_⟩
      rintro e u ⟨rfl, hg⟩
      exact Or.inr ⟨_, rfl, rfl, (hC.2.1 h0).trans hg⟩
    | 7, hm, _, _, _, _, _, _ => exact absurd hm (by decide)
    | 8, hm, _, _, _, _, _, _ => exact absurd hm (by decide)
    | 9, hm, _, _, _, _, _, _ => exact absurd hm (by decide)
    | 10, hm, _, _, _, _, _, _ => exact absurd hm (by decide)
    | 11, _, ho, h0, hf, hg, hfr, hdep =>
      simp only [List.getElem?_toArray, List.getElem?_cons_zero, List.getElem?_cons_succ, Option.some.injEq] at ho
      subst ho
      exact (hdep 8 37 (by kernel_rfl) (by kernel_rfl) : False).elim
    | n + 12, _, ho, _, _, _, _, _ => simp at ho
  · intro V w9 hC9 hS
    exact (hS 6 (by decide) (by intro h; cases h)).elim

set_option maxRecDepth 100000 in
set_option maxHeartbeats 2000000 in
theorem edge_num (P : Nat) (v : Value) (ts : List Tok) (i : Nat) (W0 W : World) (I : Nat) (pl : Int) (hpl : (nthT ts i).place = pl) (hG : Goes P v ts i W0 W) (hP0 : ∀ {n : Nat}, W0.heap.size ≤ n → v.ownBlock ≠ some n ∧ P ≠ n) (hI : W0.heap.size ≤ I) (hB : Blk 59 I W (itC 0 [] [] (.slice none 0 0) noPlc noPlc pl)) (hE : Ended ts) (hi : i < ts.length) (hl : ts.length ≤ 2000000) (j1 : Nat) (j2 : Nat) (p2 : Plc) (j3 : Nat) (j4 : Nat) (p4 : Plc) (x : Int) (j6 : Nat) (h1 : textR ts [101, 100, 103, 101] i = (some (), j1)) (h2 : placeR ts j1 = (some p2, j2)) (h3 : textR ts [45, 62] j2 = (some (), j3)) (h4 : placeR ts j3 = (some p4, j4)) (hw : (nthT ts j4).text = [119, 105, 116, 104]) (hx : numR ts (j4 + 1) = (some x, j6)) (h0 : Par P v ts i W0) :
    Calls Tryz.prog 69 #[.pointer (some ⟨P, 0, none⟩), .pointer (some ⟨I, 0, none⟩)] W (BodyEnd P v ts W0 I (edgeR ts i)) := by
  have HM : edgeR ts i = (some ⟨2, [], [], x :: numsR ts j6, p2, p4, pl⟩, j6 + (numsR ts j6).length) := by unfold edgeR withR; rw [h1, then_some, h2, then_some, h3, then_some, h4, then_some, if_pos hw, hx, then_some, then_some, hpl]
  rw [HM]
  show Calls _ _ _ _ (fun e w' => e = .returned (.tuple #[]) ∧ (∃ ns, Blk 59 I w' (itC 2 [] [] ns p2 p4 pl) ∧ Ints W0.heap.size w' ns (x :: numsR ts j6)) ∧ Goes P v ts (j6 + (numsR ts j6).length) W0 w' ∧ j6 + (numsR ts j6).length < ts.length)
  have HP0 := hidden h0
  clear h0
  clear HM hpl
  have HBK : Hid (v.ownBlock ≠ some I ∧ P ≠ I) := hP0 hI
  have HI := hidden hI
  have G0 := hidden hG
  have B0 := hidden hB
  clear hG hB hP0 hI
  have H1 : Hid (∀ w1, Par P v ts i w1 → Calls Tryz.prog 35 #[.pointer (some ⟨P, 0, none⟩), .string ⟨#[101, 100, 103, 101]⟩] w1 fun e w' => e = .returned (.tuple #[]) ∧ Goes P v ts j1 w1 w') := (expect_some h1 hE hi hl (by decide) P v).2
  have hj1 : j1 < ts.length := (expect_some h1 hE hi hl (by decide) P v).1
  have H2 : Hid (∀ w1, Par P v ts j1 w1 → Calls Tryz.prog 85 #[.pointer (some ⟨P, 0, none⟩)] w1 fun e w' => e = .returned (.agg #[.string (str p2.name), .int .i64 p2.port, .int .i64 p2.place]) ∧ Goes P v ts j2 w1 w') := (place_some h2 hE hj1 hl P v).2
  have hj2 : j2 < ts.length := (place_some h2 hE hj1 hl P v).1
  have H3 : Hid (∀ w1, Par P v ts j2 w1 → Calls Tryz.prog 35 #[.pointer (some ⟨P, 0, none⟩), .string ⟨#[45, 62]⟩] w1 fun e w' => e = .returned (.tuple #[]) ∧ Goes P v ts j3 w1 w') := (expect_some h3 hE hj2 hl (by decide) P v).2
  have hj3 : j3 < ts.length := (expect_some h3 hE hj2 hl (by decide) P v).1
  have H4 : Hid (∀ w1, Par P v ts j3 w1 → Calls Tryz.prog 85 #[.pointer (some ⟨P, 0, none⟩)] w1 fun e w' => e = .returned (.agg #[.string (str p4.name), .int .i64 p4.port, .int .i64 p4.place]) ∧ Goes P v ts j4 w1 w') := (place_some h4 hE hj3 hl P v).2
  have hj4 : j4 < ts.length := (place_some h4 hE hj3 hl P v).1
  have HSY : Hid (∀ w1, Par P v ts j4 w1 → Calls Tryz.prog 37 #[.pointer (some ⟨P, 0, none⟩), .string ⟨#[119, 105, 116, 104]⟩] w1 fun e w' => e = .returned (.bool true) ∧ Below w1.heap.size w1 w') := fun w1 q => by
    have := says_at P v ts j4 w1 q hj4 hl [119, 105, 116, 104]
    rw [decide_eq_true hw] at this
    exact this
  have hj5 : j4 + 1 < ts.length := hE.text_lt hj4 (by decide) hw
  have HPA : Hid (∀ w1, Par P v ts j4 w1 → Calls Tryz.prog 72 #[.pointer (some ⟨P, 0, none⟩)] w1 fun e w' => e = .returned (tokV (nthT ts j4)) ∧ Goes P v ts (j4 + 1) w1 w') := fun w1 q => pass_at P v ts j4 w1 q hj4 hl
  have hj6 := (number_some hx hE hj5 hl P v).1
  have H6 := (number_some hx hE hj5 hl P v).2
  have HJL := hidden (nums_lt hE ts.length j6 (by omega) hj6)
  have HLN : Hid ((numsR ts j6).length ≤ 2000000) := by have := HJL.out; show _ ≤ _; omega
  have H8 : Hid (∀ w1, Par P v ts j6 w1 → Calls Tryz.prog 84 #[.pointer (some ⟨P, 0, none⟩)] w1 fun e w' => ∃ a c, e = .returned (.slice a (numsR ts j6).length c) ∧ Ints w1.heap.size w' (.slice a (numsR ts j6).length c) (numsR ts j6) ∧ Goes P v ts (j6 + (numsR ts j6).length) w1 w') := fun w1 q => (numbers_at P v ts j6 w1 q hE hj6 hl).mono fun _ _ ⟨r, he, hn, hr, _⟩ => by { obtain ⟨a, c, rfl⟩ := hn.shape; exact ⟨a, c, he, hn, hr⟩ }
  clear hw hx
  clear h1 h2 h3 h4
  go_enter Tryz.func69, Tryz.ntmps69
  go_wp2_with (first
    | (go_at_call 72; (with_reducible refine (HPA.out _ G5.out.par).mono ?_); rintro e w6 ⟨rfl, hg⟩; have G6 := hidden (G5.out.trans hg); have B6 := hidden (B5.out.grown hg.grown (fun e => HBK.out.2 (Option.some.inj e).symm)); clear hg)
    | (go_at_call 37; (with_reducible refine (HSY.out _ G4.out.par).mono ?_); rintro e w5 ⟨rfl, hb⟩; have G5 := hidden (G4.out.later hb); have B5 := hidden (B4.out.below hb); clear hb)
    | (go_at_call 85; (with_reducible refine (H4.out _ G3.out.par).mono ?_); rintro e w4 ⟨rfl, hg⟩; have Bk := (B3.out.grown hg.grown (fun e => HBK.out.2 (Option.some.inj e).symm)); have c4_7 := Bk.cell (k := 7) rfl; have f4_7 := Bk.frozen 7; have c4_8 := Bk.cell (k := 8) rfl; have f4_8 := Bk.frozen 8; have c4_9 := Bk.cell (k := 9) rfl; have f4_9 := Bk.frozen 9; have G4 := hidden ((((G3.out.trans hg).put (k := 7) HBK.out HI.out (.string (str p4.name))).put (k := 8) HBK.out HI.out (.int .i64 p4.port)).put (k := 9) HBK.out HI.out (.int .i64 p4.place)); have B4 : Hid (Blk 59 I (((w4.setCell ⟨I, 7, none⟩ (.string (str p4.name))).setCell ⟨I, 8, none⟩ (.int .i64 p4.port)).setCell ⟨I, 9, none⟩ (.int .i64 p4.place)) (itC 2 [] [] (.slice none 0 0) p2 p4 pl)) := (((Bk.set 7 (.string (str p4.name))).set 8 (.int .i64 p4.port)).set 9 (.int .i64 p4.place)); clear hg Bk)
    | (go_at_call 35; (with_reducible refine (H3.out _ G2.out.par).mono ?_); rintro e w3 ⟨rfl, hg⟩; have Bk := (B2.out.grown hg.grown (fun e => HBK.out.2 (Option.some.inj e).symm)); have G3 := hidden (G2.out.trans hg); have B3 : Hid (Blk 59 I w3 (itC 2 [] [] (.slice none 0 0) p2 noPlc pl)) := Bk; clear hg Bk)
    | (go_at_call 85; (with_reducible refine (H2.out _ G1.out.par).mono ?_); rintro e w2 ⟨rfl, hg⟩; have Bk := (B1.out.grown hg.grown (fun e => HBK.out.2 (Option.some.inj e).symm)); have c2_4 := Bk.cell (k := 4) rfl; have f2_4 := Bk.frozen 4; have c2_5 := Bk.cell (k := 5) rfl; have f2_5 := Bk.frozen 5; have c2_6 := Bk.cell (k := 6) rfl; have f2_6 := Bk.frozen 6; have G2 := hidden ((((G1.out.trans hg).put (k := 4) HBK.out HI.out (.string (str p2.name))).put (k := 5) HBK.out HI.out (.int .i64 p2.port)).put (k := 6) HBK.out HI.out (.int .i64 p2.place)); have B2 : Hid (Blk 59 I (((w2.setCell ⟨I, 4, none⟩ (.string (str p2.name))).setCell ⟨I, 5, none⟩ (.int .i64 p2.port)).setCell ⟨I, 6, none⟩ (.int .i64 p2.place)) (itC 2 [] [] (.slice none 0 0) p2 noPlc pl)) := (((Bk.set 4 (.string (str p2.name))).set 5 (.int .i64 p2.port)).set 6 (.int .i64 p2.place)); clear hg Bk)
    | (go_at_call 35; (with_reducible refine (H1.out _ G0.out.par).mono ?_); rintro e w1 ⟨rfl, hg⟩; have Bk := (B0.out.grown hg.grown (fun e => HBK.out.2 (Option.some.inj e).symm)); have c1_0 := Bk.cell (k := 0) rfl; have f1_0 := Bk.frozen 0; have G1 := hidden ((G0.out.trans hg).put (k := 0) HBK.out HI.out (.int .u8 2)); have B1 : Hid (Blk 59 I (w1.setCell ⟨I, 0, none⟩ (.int .u8 2)) (itC 2 [] [] (.slice none 0 0) noPlc noPlc pl)) := (Bk.set 0 (.int .u8 2)); clear hg Bk))
  have HPS : Hid (P < w6.heap.size) := G6.out.par.lt
  have HIS : Hid (I < w6.heap.size) := B6.out.lt
  refine wp_region_pan [6, 11] (fun d i u z => match i with
      | 0 => z = .pointer (some ⟨I, 0, none⟩)
      | 1 => z = .pointer (some ⟨I, 0, none⟩)
      | 2 => z = .pointer (some ⟨I, 0, none⟩)
      | 3 => z = .pointer (some ⟨I, 3, none⟩)
      | 4 => z = .slice none 0 0
      | 5 => z = .pointer (some ⟨P, 0, none⟩)
      | 6 => z = .int .i64 x
      | 7 => ∃ b, z = .slice (some ⟨b, 0, none⟩) 1 1 ∧ w6.heap.size ≤ b ∧ u.cell? ⟨b, 0, none⟩ = some (.int .i64 x) ∧ b < u.heap.size
      | 8 => ∃ a c, z = .slice a 1 c ∧ Ints w6.heap.size u (.slice a 1 c) [x]
      | 9 => z = .pointer (some ⟨I, 0, none⟩)
      | 10 => z = .pointer (some ⟨I, 3, none⟩)
      | 11 => True
      | _ => True) (fun d u => (d 6 = true → Goes P v ts j6 W0 u) ∧ (d 6 = false → Goes P v ts (j4 + 1) W0 u) ∧ (d 11 = true → ∃ ns, Blk 59 I u (itC 2 [] [] ns p2 p4 pl) ∧ Ints w6.heap.size u ns [x]) ∧ (d 11 = false → Blk 59 I u (itC 2 [] [] (.slice none 0 0) p2 p4 pl)) ∧ w6.heap.size ≤ u.heap.size) (Z := fun _ _ => False) ?_ (by kernel_rfl) (by kernel_rfl) (by kernel_rfl) ?_ ?_ ?_ ?_ ?_ ?_ (by kernel_rfl)
  · intro c a' w' _ h
    cases h
  · intro d i w v w' h hb
    match i, h with
    | 0, h => exact h
    | 1, h => exact h
    | 2, h => exact h
    | 3, h => exact h
    | 4, h => exact h
    | 5, h => exact h
    | 6, h => exact h
    | 7, h => obtain ⟨b, q1, q2, q3, q4⟩ := h; exact ⟨b, q1, q2, (hb.cell (p := ⟨b, 0, none⟩) q4).trans q3, Nat.lt_of_lt_of_le q4 hb.size⟩
    | 8, h => obtain ⟨a, c, q1, q2⟩ := h; exact ⟨a, c, q1, q2.below hb⟩
    | 9, h => exact h
    | 10, h => exact h
    | 11, h => exact h
    | _ + 12, _ => trivial
  · intro d u u' h hb
    exact ⟨fun h1 => (h.1 h1).later hb, fun h1 => (h.2.1 h1).later hb, fun h1 => by { obtain ⟨ns, q1, q2⟩ := h.2.2.1 h1; exact ⟨ns, q1.below hb, q2.below hb⟩ }, fun h1 => (h.2.2.2.1 h1).below hb, Nat.le_trans h.2.2.2.2 hb.size⟩
  · exact ⟨fun h => absurd h (by decide), fun _ => G6.out, fun h => absurd h (by decide), fun _ => B6.out, Nat.le_refl _⟩
  · intro d i o ρ w' hm ho hf hg hC hcs hfs hfr hdep
    match i, hm, ho, hf, hg, hfr, hdep with
    | 0, _, ho, hf, hg, hfr, hdep =>
      simp only [List.getElem?_toArray, List.getElem?_cons_zero, Option.some.injEq] at ho
      subst ho
      refine ⟨fun _ => ?_, fun hw => absurd (show true = false from hw) (by decide)⟩
      have ts : ρ (.tmp 1) = .pointer (some ⟨I, 0, none⟩) := hfr 1 (by kernel_rfl)
      simp [go_sem, ts]
      exact ⟨Below.refl _ _, rfl⟩
    | 1, _, ho, hf, hg, hfr, hdep =>
      simp only [List.getElem?_toArray, List.getElem?_cons_zero, List.getElem?_cons_succ, Option.some.injEq] at ho
      subst ho
      refine ⟨fun _ => ?_, fun hw => absurd (show true = false from hw) (by decide)⟩
      have ts : ρ (.tmp 1) = .pointer (some ⟨I, 0, none⟩) := hfr 1 (by kernel_rfl)
      simp [go_sem, ts]
      exact ⟨Below.refl _ _, rfl⟩
    | 2, _, ho, hf, hg, hfr, hdep =>
      simp only [List.getElem?_toArray, List.getElem?_cons_zero, List.getElem?_cons_succ, Option.some.injEq] at ho
      subst ho
      refine ⟨fun _ => ?_, fun hw => absurd (show true = false from hw) (by decide)⟩
      have d0 : ρ (.tmp 30) = .pointer (some ⟨I, 0, none⟩) := hdep 1 30 (by kernel_rfl) (by kernel_rfl)
      simp [go_sem, d0]
      exact ⟨Below.refl _ _, rfl⟩
    | 3, _, ho, hf, hg, hfr, hdep =>
      simp only [List.getElem?_toArray, List.getElem?_cons_zero, List.getElem?_cons_succ, Option.some.injEq] at ho
      subst ho
      refine ⟨fun _ => ?_, fun hw => absurd (show true = false from hw) (by decide)⟩
      have d0 : ρ (.tmp 31) = .pointer (some ⟨I, 0, none⟩) := hdep 2 31 (by kernel_rfl) (by kernel_rfl)
      simp [go_sem, d0]
      exact ⟨Below.refl _ _, rfl⟩
    | 4, _, ho, hf, hg, hfr, hdep =>
      simp only [List.getElem?_toArray, List.getElem?_cons_zero, List.getElem?_cons_succ, Option.some.injEq] at ho
      subst ho
      refine ⟨fun _ => ?_, fun hw => absurd (show true = false from hw) (by decide)⟩
      have Bk := hC.2.2.2.1 (hf 11 (by decide) (by kernel_rfl))
      have c3 : w'.cell? ⟨I, 3, none⟩ = some (.slice none 0 0) := Bk.cell (k := 3) rfl
      have d0 : ρ (.tmp 32) = .pointer (some ⟨I, 3, none⟩) := hdep 3 32 (by kernel_rfl) (by kernel_rfl)
      simp [go_sem, d0, c3]
      exact ⟨Below.refl _ _, rfl⟩
    | 5, _, ho, hf, hg, hfr, hdep =>
      simp only [List.getElem?_toArray, List.getElem?_cons_zero, List.getElem?_cons_succ, Option.some.injEq] at ho
      subst ho
      refine ⟨fun _ => ?_, fun hw => absurd (show true = false from hw) (by decide)⟩
      have ts : ρ (.tmp 0) = .pointer (some ⟨P, 0, none⟩) := hfr 0 (by kernel_rfl)
      simp [go_sem, ts]
      exact ⟨Below.refl _ _, rfl⟩
    | 6, hm, _, _, _, _, _ => exact absurd hm (by decide)
    | 7, _, ho, hf, hg, hfr, hdep =>
      simp only [List.getElem?_toArray, List.getElem?_cons_zero, List.getElem?_cons_succ, Option.some.injEq] at ho
      subst ho
      refine ⟨fun _ => ?_, fun hw => absurd (show true = false from hw) (by decide)⟩
      have ts : ρ (.tmp 35) = .int .i64 x := hdep 6 35 (by kernel_rfl) (by kernel_rfl)
      simp [go_sem, ts]
      exact ⟨(Below.refl _ _).alloc (Nat.le_refl _) _, _, rfl, hC.2.2.2.2, by simp, by simp⟩
    | 8, _, ho, hf, hg, hfr, hdep =>
      simp only [List.getElem?_toArray, List.getElem?_cons_zero, List.getElem?_cons_succ, Option.some.injEq] at ho
      subst ho
      refine ⟨fun _ => ?_, fun hw => absurd (show true = false from hw) (by decide)⟩
      obtain ⟨b, e7, q2, q3, q4⟩ : ∃ b, ρ (.tmp 36) = .slice (some ⟨b, 0, none⟩) 1 1 ∧ w6.heap.size ≤ b ∧ w'.cell? ⟨b, 0, none⟩ = some (.int .i64 x) ∧ b < w'.heap.size := hdep 7 36 (by kernel_rfl) (by kernel_rfl)
      have ts : ρ (.tmp 33) = .slice none 0 0 := hdep 4 33 (by kernel_rfl) (by kernel_rfl)
      obtain ⟨r', w'', hr, ho, hg⟩ := ints_more w6.heap.size w' b x q3 hC.2.2.2.2
      unfold execOp
      simp only [resolve, invoke, builtin, Sem.run_bind, Sem.run_pure, Result.andThen_ok, List.map_toArray, List.map_cons, List.map_nil, ts, e7, hr]
      obtain ⟨a, c, rfl⟩ := ho.shape
      exact ⟨hg, a, c, rfl, ho⟩
    | 9, _, ho, hf, hg, hfr, hdep =>
      simp only [List.getElem?_toArray, List.getElem?_cons_zero, List.getElem?_cons_succ, Option.some.injEq] at ho
      subst ho
      refine ⟨fun _ => ?_, fun hw => absurd (show true = false from hw) (by decide)⟩
      have d0 : ρ (.tmp 29) = .pointer (some ⟨I, 0, none⟩) := hdep 0 29 (by kernel_rfl) (by kernel_rfl)
      simp [go_sem, d0]
      exact ⟨Below.refl _ _, rfl⟩
    | 10, _, ho, hf, hg, hfr, hdep =>
      simp only [List.getElem?_toArray, List.getElem?_cons_zero, List.getElem?_cons_succ, Option.some.injEq] at ho
      subst ho
      refine ⟨fun _ => ?_, fun hw => absurd (show true = false from hw) (by decide)⟩
      have d0 : ρ (.tmp 38) = .pointer (some ⟨I, 0, none⟩) := hdep 9 38 (by kernel_rfl) (by kernel_rfl)
      simp [go_sem, d0]
      exact ⟨Below.refl _ _, rfl⟩
    | 11, hm, _, _, _, _, _ => exact absurd hm (by decide)
    | n + 12, _, ho, _, _, _, _ => simp at ho
  · intro d i o ρ w' hm ho h0 hf hg hC hcs hfs hfr hdep
    match i, hm, ho, h0, hf, hg, hfr, hdep with
    | 0, hm, _, _, _, _, _, _ => exact absurd hm (by decide)
    | 1, hm, _, _, _, _, _, _ => exact absurd hm (by decide)
    | 2, hm, _, _, _, _, _, _ => exact absurd hm (by decide)
    | 3, hm, _, _, _, _, _, _ => exact absurd hm (by decide)
    | 4, hm, _, _, _, _, _, _ => exact absurd hm (by decide)
    | 5, hm, _, _, _, _, _, _ => exact absurd hm (by decide)
    | 6, _, ho, h0, hf, hg, hfr, hdep =>
      simp only [List.getElem?_toArray, List.getElem?_cons_zero, List.getElem?_cons_succ, Option.some.injEq] at ho
      subst ho
      refine ⟨rfl, ?_⟩
      have ts : ρ (.tmp 34) = .pointer (some ⟨P, 0, none⟩) := hdep 5 34 (by kernel_rfl) (by kernel_rfl)
      simp [go_sem, ts, hfs]
      refine ⟨rfl, (H6.out _ (hC.2.1 h0).par).mono ?_⟩
      rintro e u ⟨rfl, hg⟩
      refine Or.inl ⟨_, rfl, ⟨fun _ => (hC.2.1 h0).trans hg, fun h => absurd h (by simp [doneAt]), fun h => ?_, fun h => ?_, Nat.le_trans hC.2.2.2.2 hg.grown.size⟩, rfl, ?_⟩
      · obtain ⟨ns, q1, q2⟩ := hC.2.2.1 (by simpa [doneAt] using h)
        exact ⟨ns, q1.grown hg.grown (fun e => HBK.out.2 (Option.some.inj e).symm), q2.grown hg.grown HPS.out⟩
      · exact (hC.2.2.2.1 (by simpa [doneAt] using h)).grown hg.grown (fun e => HBK.out.2 (Option.some.inj e).symm)
      · intro j t _ hs
        match j, hs with
        | 0, hs => exact hs
        | 1, hs => exact hs
        | 2, hs => exact hs
        | 3, hs => exact hs
        | 4, hs => exact hs
        | 5, hs => exact hs
        | 6, hs => exact hs
        | 7, hs => obtain ⟨b, q1, q2, q3, q4⟩ := hs; exact ⟨b, q1, q2, hg.grown.cell q3 (fun e => by have := Option.some.inj e; have := HPS.out; simp at *; omega), Nat.lt_of_lt_of_le q4 hg.grown.size⟩
        | 8, hs => obtain ⟨a, c, q1, q2⟩ := hs; exact ⟨a, c, q1, q2.grown hg.grown HPS.out⟩
        | 9, hs => exact hs
        | 10, hs => exact hs
        | 11, hs => exact hs
        | _ + 12, _ => trivial
    | 7, hm, _, _, _, _, _, _ => exact absurd hm (by decide)
    | 8, hm, _, _, _, _, _, _ => exact absurd hm (by decide)
    | 9, hm, _, _, _, _, _, _ => exact absurd hm (by decide)
    | 10, hm, _, _, _, _, _, _ => exact absurd hm (by decide)
    | 11, _, ho, h0, hf, hg, hfr, hdep =>
      simp only [List.getElem?_toArray, List.getElem?_cons_zero, List.getElem?_cons_succ, Option.some.injEq] at ho
      subst ho
      refine ⟨rfl, ?_⟩
      have t1 : ρ (.tmp 39) = .pointer (some ⟨I, 3, none⟩) := hdep 10 39 (by kernel_rfl) (by kernel_rfl)
      obtain ⟨a8, c8, e8, hn8⟩ : ∃ a c, ρ (.tmp 37) = .slice a 1 c ∧ Ints w6.heap.size w' (.slice a 1 c) [x] := hdep 8 37 (by kernel_rfl) (by kernel_rfl)
      have Bk := hC.2.2.2.1 h0
      have c3 := Bk.cell (k := 3) rfl
      have f3 := Bk.frozen 3
      simp [go_sem, t1, e8, c3, f3]
      refine ⟨⟨fun h => (hC.1 (by simpa [doneAt] using h)).put HBK.out HI.out _, fun h => (hC.2.1 (by simpa [doneAt] using h)).put HBK.out HI.out _, fun _ => ⟨_, Bk.set 3 _, hn8.put HIS.out⟩, fun h => absurd h (by simp [doneAt]), by rw [World.size_setCell]; exact hC.2.2.2.2⟩, ?_⟩
      intro j t _ hs
      match j, hs with
      | 0, hs => exact hs
      | 1, hs => exact hs
      | 2, hs => exact hs
      | 3, hs => exact hs
      | 4, hs => exact hs
      | 5, hs => exact hs
      | 6, hs => exact hs
      | 7, hs => obtain ⟨b, q1, q2, q3, q4⟩ := hs; exact ⟨b, q1, q2, by rw [World.cell?_setCell_other _ _ _ _ (fun e => by have h1 := congrArg Addr.block e; have h2 := HIS.out; dsimp only at h1; omega)]; exact q3, by rw [World.size_setCell]; exact q4⟩
      | 8, hs => obtain ⟨a, c, q1, q2⟩ := hs; exact ⟨a, c, q1, q2.put HIS.out⟩
      | 9, hs => exact hs
      | 10, hs => exact hs
      | 11, hs => exact hs
      | _ + 12, _ => trivial
    | n + 12, _, ho, _, _, _, _, _ => simp at ho
  · intro V w9 hC9 hS
    simp only [puts, put_none]
    simp only [Act.put, List.setIfInBounds_toArray, List.set_cons_zero, List.set_cons_succ]
    clear hS 
    have G9 := hidden (hC9.1 rfl)
    obtain ⟨ns, hB9, hN9⟩ := hC9.2.2.1 rfl
    obtain ⟨a7, c7, rfl⟩ := hN9.shape
    have B9 : Hid (Blk 59 I w9 (itC 2 [] [] (.slice a7 1 c7) p2 p4 pl)) := hB9
    have N9 : Hid (Ints w6.heap.size w9 (.slice a7 1 c7) [x]) := hN9
    have H69 : Hid (w6.heap.size ≤ w9.heap.size) := hC9.2.2.2.2
    have HW6 : Hid (W0.heap.size ≤ w6.heap.size) := G6.out.grown.size
    have HP9 : Hid (P < w9.heap.size) := Nat.lt_of_lt_of_le HPS.out H69.out
    have HI9 : Hid (I < w9.heap.size) := Nat.lt_of_lt_of_le HIS.out H69.out
    clear hC9 hB9 hN9
    go_wp2
    refine wp_region_pan [6, 7, 10] (fun d i u z => match i with
        | 0 => z = .pointer (some ⟨I, 0, none⟩)
        | 1 => z = .pointer (some ⟨I, 0, none⟩)
        | 2 => z = .pointer (some ⟨I, 0, none⟩)
        | 3 => z = .pointer (some ⟨I, 3, none⟩)
        | 4 => z = .slice a7 1 c7
        | 5 => z = .pointer (some ⟨P, 0, none⟩)
        | 6 => ∃ a c, z = .slice a (numsR ts j6).length c ∧ Ints w9.heap.size u (.slice a (numsR ts j6).length c) (numsR ts j6)
        | 7 => d 7 = true ∧ ∃ a c, z = .slice a (x :: numsR ts j6).length c ∧ Ints w6.heap.size u (.slice a (x :: numsR ts j6).length c) (x :: numsR ts j6)
        | 8 => z = .pointer (some ⟨I, 0, none⟩)
        | 9 => z = .pointer (some ⟨I, 3, none⟩)
        | 10 => True
        | _ => True) (fun d u => (d 6 = true → Goes P v ts (j6 + (numsR ts j6).length) W0 u) ∧ (d 6 = false → Goes P v ts j6 W0 u) ∧ (d 7 = false → Ints w6.heap.size u (.slice a7 1 c7) [x]) ∧ (d 10 = true → ∃ ns, Blk 59 I u (itC 2 [] [] ns p2 p4 pl) ∧ Ints w6.heap.size u ns (x :: numsR ts j6)) ∧ (d 10 = false → Blk 59 I u (itC 2 [] [] (.slice a7 1 c7) p2 p4 pl)) ∧ w9.heap.size ≤ u.heap.size) (Z := fun _ _ => False) ?_ (by kernel_rfl) (by kernel_rfl) (by kernel_rfl) ?_ ?_ ?_ ?_ ?_ ?_ (by kernel_rfl)
    · intro c a' w' _ h
      cases h
    · intro d i w v w' h hb
      match i, h with
      | 0, h => exact h
      | 1, h => exact h
      | 2, h => exact h
      | 3, h => exact h
      | 4, h => exact h
      | 5, h => exact h
      | 6, h => obtain ⟨a, c, q1, q2⟩ := h; exact ⟨a, c, q1, q2.below hb⟩
      | 7, h => obtain ⟨q0, a, c, q1, q2⟩ := h; exact ⟨q0, a, c, q1, q2.below hb⟩
      | 8, h => exact h
      | 9, h => exact h
      | 10, h => exact h
      | _ + 11, _ => trivial
    · intro d u u' h hb
      exact ⟨fun h1 => (h.1 h1).later hb, fun h1 => (h.2.1 h1).later hb, fun h1 => (h.2.2.1 h1).below hb, fun h1 => by { obtain ⟨ns, q1, q2⟩ := h.2.2.2.1 h1; exact ⟨ns, q1.below hb, q2.below hb⟩ }, fun h1 => (h.2.2.2.2.1 h1).below hb, Nat.le_trans h.2.2.2.2.2 hb.size⟩
    · exact ⟨fun h => absurd h (by decide), fun _ => G9.out, fun _ => N9.out, fun h => absurd h (by decide), fun _ => B9.out, Nat.le_refl _⟩
    · intro d i o ρ w' hm ho hf hg hC hcs hfs hfr hdep
      match i, hm, ho, hf, hg, hfr, hdep with
      | 0, _, ho, hf, hg, hfr, hdep =>
        simp only [List.getElem?_toArray, List.getElem?_cons_zero, Option.some.injEq] at ho
        subst ho
        refine ⟨fun _ => ?_, fun hw => absurd (show true = false from hw) (by decide)⟩
        have ts : ρ (.tmp 1) = .pointer (some ⟨I, 0, none⟩) := hfr 1 (by kernel_rfl)
        simp [go_sem, ts]
        exact ⟨Below.refl _ _, rfl⟩
      | 1, _, ho, hf, hg, hfr, hdep =>
        simp only [List.getElem?_toArray, List.getElem?_cons_zero, List.getElem?_cons_succ, Option.some.injEq] at ho
        subst ho
        refine ⟨fun _ => ?_, fun hw => absurd (show true = false from hw) (by decide)⟩
        have ts : ρ (.tmp 1) = .pointer (some ⟨I, 0, none⟩) := hfr 1 (by kernel_rfl)
        simp [go_sem, ts]
        exact ⟨Below.refl _ _, rfl⟩
      | 2, _, ho, hf, hg, hfr, hdep =>
        simp only [List.getElem?_toArray, List.getElem?_cons_zero, List.getElem?_cons_succ, Option.some.injEq] at ho
        subst ho
        refine ⟨fun _ => ?_, fun hw => absurd (show true = false from hw) (by decide)⟩
        have d0 : ρ (.tmp 41) = .pointer (some ⟨I, 0, none⟩) := hdep 1 41 (by kernel_rfl) (by kernel_rfl)
        simp [go_sem, d0]
        exact ⟨Below.refl _ _, rfl⟩
      | 3, _, ho, hf, hg, hfr, hdep =>
        simp only [List.getElem?_toArray, List.getElem?_cons_zero, List.getElem?_cons_succ, Option.some.injEq] at ho
        subst ho
        refine ⟨fun _ => ?_, fun hw => absurd (show true = false from hw) (by decide)⟩
        have d0 : ρ (.tmp 42) = .pointer (some ⟨I, 0, none⟩) := hdep 2 42 (by kernel_rfl) (by kernel_rfl)
        simp [go_sem, d0]
        exact ⟨Below.refl _ _, rfl⟩
      | 4, _, ho, hf, hg, hfr, hdep =>
        simp only [List.getElem?_toArray, List.getElem?_cons_zero, List.getElem?_cons_succ, Option.some.injEq] at ho
        subst ho
        refine ⟨fun _ => ?_, fun hw => absurd (show true = false from hw) (by decide)⟩
        have Bk := hC.2.2.2.2.1 (hf 10 (by decide) (by kernel_rfl))
        have c3 : w'.cell? ⟨I, 3, none⟩ = some (.slice a7 1 c7) := Bk.cell (k := 3) rfl
        have d0 : ρ (.tmp 43) = .pointer (some ⟨I, 3, none⟩) := hdep 3 43 (by kernel_rfl) (by kernel_rfl)
        simp [go_sem, d0, c3]
        exact ⟨Below.refl _ _, rfl⟩
      | 5, _, ho, hf, hg, hfr, hdep =>
        simp only [List.getElem?_toArray, List.getElem?_cons_zero, List.getElem?_cons_succ, Option.some.injEq] at ho
        subst ho
        refine ⟨fun _ => ?_, fun hw => absurd (show true = false from hw) (by decide)⟩
        have ts : ρ (.tmp 0) = .pointer (some ⟨P, 0, none⟩) := hfr 0 (by kernel_rfl)
        simp [go_sem, ts]
        exact ⟨Below.refl _ _, rfl⟩
      | 6, hm, _, _, _, _, _ => exact absurd hm (by decide)
      | 7, hm, _, _, _, _, _ => exact absurd hm (by decide)
      | 8, _, ho, hf, hg, hfr, hdep =>
        simp only [List.getElem?_toArray, List.getElem?_cons_zero, List.getElem?_cons_succ, Option.some.injEq] at ho
        subst ho
        refine ⟨fun _ => ?_, fun hw => absurd (show true = false from hw) (by decide)⟩
        have d0 : ρ (.tmp 40) = .pointer (some ⟨I, 0, none⟩) := hdep 0 40 (by kernel_rfl) (by kernel_rfl)
        simp [go_sem, d0]
        exact ⟨Below.refl _ _, rfl⟩
      | 9, _, ho, hf, hg, hfr, hdep =>
        simp only [List.getElem?_toArray, List.getElem?_cons_zero, List.getElem?_cons_succ, Option.some.injEq] at ho
        subst ho
        refine ⟨fun _ => ?_, fun hw => absurd (show true = false from hw) (by decide)⟩
        have d0 : ρ (.tmp 48) = .pointer (some ⟨I, 0, none⟩) := hdep 8 48 (by kernel_rfl) (by kernel_rfl)
        simp [go_sem, d0]
        exact ⟨Below.refl _ _, rfl⟩
      | 10, hm, _, _, _, _, _ => exact absurd hm (by decide)
      | n + 11, _, ho, _, _, _, _ => simp at ho
    · intro d i o ρ w' hm ho h0 hf hg hC hcs hfs hfr hdep
      match i, hm, ho, h0, hf, hg, hfr, hdep with
      | 0, hm, _, _, _, _, _, _ => exact absurd hm (by decide)
      | 1, hm, _, _, _, _, _, _ => exact absurd hm (by decide)
      | 2, hm, _, _, _, _, _, _ => exact absurd hm (by decide)
      | 3, hm, _, _, _, _, _, _ => exact absurd hm (by decide)
      | 4, hm, _, _, _, _, _, _ => exact absurd hm (by decide)
      | 5, hm, _, _, _, _, _, _ => exact absurd hm (by decide)
      | 6, _, ho, h0, hf, hg, hfr, hdep =>
        simp only [List.getElem?_toArray, List.getElem?_cons_zero, List.getElem?_cons_succ, Option.some.injEq] at ho
        subst ho
        refine ⟨rfl, ?_⟩
        have ts : ρ (.tmp 45) = .pointer (some ⟨P, 0, none⟩) := hdep 5 45 (by kernel_rfl) (by kernel_rfl)
        simp [go_sem, ts, hfs]
        refine ⟨rfl, (H8.out _ (hC.2.1 h0).par).mono ?_⟩
        rintro e u ⟨a, c, rfl, hin, hg⟩
        refine Or.inl ⟨_, rfl, ⟨fun _ => (hC.2.1 h0).trans hg, fun h => absurd h (by simp [doneAt]), fun h => (hC.2.2.1 (by simpa [doneAt] using h)).grown hg.grown HPS.out, fun h => ?_, fun h => ?_, Nat.le_trans hC.2.2.2.2.2 hg.grown.size⟩, ⟨a, c, rfl, hin.mono hC.2.2.2.2.2⟩, ?_⟩
        · obtain ⟨ns, q1, q2⟩ := hC.2.2.2.1 (by simpa [doneAt] using h)
          exact ⟨ns, q1.grown hg.grown (fun e => HBK.out.2 (Option.some.inj e).symm), q2.grown hg.grown HPS.out⟩
        · exact (hC.2.2.2.2.1 (by simpa [doneAt] using h)).grown hg.grown (fun e => HBK.out.2 (Option.some.inj e).symm)
        · intro j t _ hs
          match j, hs with
          | 0, hs => exact hs
          | 1, hs => exact hs
          | 2, hs => exact hs
          | 3, hs => exact hs
          | 4, hs => exact hs
          | 5, hs => exact hs
          | 6, hs => obtain ⟨a, c, q1, q2⟩ := hs; exact ⟨a, c, q1, q2.grown hg.grown HP9.out⟩
          | 7, hs => obtain ⟨q0, a, c, q1, q2⟩ := hs; exact ⟨by simpa [doneAt] using q0, a, c, q1, q2.grown hg.grown HPS.out⟩
          | 8, hs => exact hs
          | 9, hs => exact hs
          | 10, hs => exact hs
          | _ + 11, _ => trivial
      | 7, _, ho, h0, hf, hg, hfr, hdep =>
        simp only [List.getElem?_toArray, List.getElem?_cons_zero, List.getElem?_cons_succ, Option.some.injEq] at ho
        subst ho
        refine ⟨rfl, ?_⟩
        obtain ⟨a, c, e6, hn6⟩ : ∃ a c, ρ (.tmp 46) = .slice a (numsR ts j6).length c ∧ Ints w9.heap.size w' (.slice a (numsR ts j6).length c) (numsR ts j6) := hdep 6 46 (by kernel_rfl) (by kernel_rfl)
        have tq : ρ (.tmp 44) = .slice a7 1 c7 := hdep 4 44 (by kernel_rfl) (by kernel_rfl)
        have hN := hC.2.2.1 h0
        obtain ⟨r', w'', hr, ho, hg⟩ := ints_append w6.heap.size w9.heap.size w' (.slice a7 1 c7) (.slice a (numsR ts j6).length c) [x] (numsR ts j6) hN hn6 (Nat.le_trans H69.out hC.2.2.2.2.2) (by have := HLN.out; simp; omega)
        unfold execOp
        simp only [resolve, invoke, builtin, Sem.run_bind, Sem.run_pure, Result.andThen_ok, List.map_toArray, List.map_cons, List.map_nil, tq, e6, hr]
        obtain ⟨a2, c2, rfl⟩ := ho.shape
        have hrow : ∀ k, (Value.slice a7 1 c7).ownBlock = some k → w6.heap.size ≤ k := own_row hN
        have hlow : ∀ k, (Value.slice a7 1 c7).ownBlock = some k → k < w9.heap.size := own_lt N9.out
        have hd10 := hf 10 (by decide) (by kernel_rfl)
        refine ⟨⟨fun h => (hC.1 (by simpa [doneAt] using h)).own HP0.out hg (fun k e => Nat.le_trans HW6.out (hrow k e)), fun h => (hC.2.1 (by simpa [doneAt] using h)).own HP0.out hg (fun k e => Nat.le_trans HW6.out (hrow k e)), fun h => absurd h (by simp [doneAt]), fun h => absurd (hd10.symm.trans (by simpa [doneAt] using h)) (by decide), fun _ => (hC.2.2.2.2.1 hd10).grown hg (fun e => by have := hrow I e.symm; have := HIS.out; omega), Nat.le_trans hC.2.2.2.2.2 hg.size⟩, fun _ => ⟨by simp [doneAt], a2, c2, rfl, ho⟩, ?_⟩
        intro j t _ hs
        match j, hs with
        | 0, hs => exact hs
        | 1, hs => exact hs
        | 2, hs => exact hs
        | 3, hs => exact hs
        | 4, hs => exact hs
        | 5, hs => exact hs
        | 6, hs => obtain ⟨a, c, q1, q2⟩ := hs; exact ⟨a, c, q1, q2.kept hg hlow⟩
        | 7, hs => exact absurd (h0.symm.trans hs.1) (by decide)
        | 8, hs => exact hs
        | 9, hs => exact hs
        | 10, hs => exact hs
        | _ + 11, _ => trivial
      | 8, hm, _, _, _, _, _, _ => exact absurd hm (by decide)
      | 9, hm, _, _, _, _, _, _ => exact absurd hm (by decide)
      | 10, _, ho, h0, hf, hg, hfr, hdep =>
        simp only [List.getElem?_toArray, List.getElem?_cons_zero, List.getElem?_cons_succ, Option.some.injEq] at ho
        subst ho
        refine ⟨rfl, ?_⟩
        have t1 : ρ (.tmp 49) = .pointer (some ⟨I, 3, none⟩) := hdep 9 49 (by kernel_rfl) (by kernel_rfl)
        obtain ⟨hd7, a8, c8, e8, hn8⟩ : d 7 = true ∧ ∃ a c, ρ (.tmp 47) = .slice a (x :: numsR ts j6).length c ∧ Ints w6.heap.size w' (.slice a (x :: numsR ts j6).length c) (x :: numsR ts j6) := hdep 7 47 (by kernel_rfl) (by kernel_rfl)
        have Bk := hC.2.2.2.2.1 h0
        have c3 := Bk.cell (k := 3) rfl
        have f3 := Bk.frozen 3
        generalize (x :: numsR ts j6).length = LX at *
        simp [go_sem, t1, e8, c3, f3]
        refine ⟨⟨fun h => (hC.1 (by simpa [doneAt] using h)).put HBK.out HI.out _, fun h => (hC.2.1 (by simpa [doneAt] using h)).put HBK.out HI.out _, fun h => absurd (hd7.symm.trans (by simpa [doneAt] using h)) (by decide), fun _ => ⟨_, Bk.set 3 _, hn8.put HIS.out⟩, fun h => absurd h (by simp [doneAt]), by rw [World.size_setCell]; exact hC.2.2.2.2.2⟩, ?_⟩
        intro j t _ hs
        match j, hs with
        | 0, hs => exact hs
        | 1, hs => exact hs
        | 2, hs => exact hs
        | 3, hs => exact hs
        | 4, hs => exact hs
        | 5, hs => exact hs
        | 6, hs => obtain ⟨a, c, q1, q2⟩ := hs; exact ⟨a, c, q1, q2.put HI9.out⟩
        | 7, hs => obtain ⟨q0, a, c, q1, q2⟩ := hs; exact ⟨by simpa [doneAt] using q0, a, c, q1, q2.put HIS.out⟩
        | 8, hs => exact hs
        | 9, hs => exact hs
        | 10, hs => exact hs
        | _ + 11, _ => trivial
      | n + 11, _, ho, _, _, _, _, _ => simp at ho
    · intro V wx hC9 hS
      simp only [puts, put_none]
      simp only [Act.put, List.setIfInBounds_toArray, List.set_cons_zero, List.set_cons_succ]
      clear hS 
      obtain ⟨ns, hB, hN⟩ := hC9.2.2.2.1 rfl
      go_end0
      exact ⟨rfl, ⟨ns, hB, hN.mono HW6.out⟩, hC9.1 rfl, HJL.out⟩

end Go.Proofs.YthgblljokonejaaGreatDoor

/- The parser's item. (Written by tmpl/mkS8.py.) -/
namespace Go.Proofs.YthgblljokonejaaGreatDoor
open Go.ChangeShapes Go.WideShapes Go.ChangeAt Go.RowKit

theorem edge_any (P : Nat) (v : Value) (ts : List Tok) (i : Nat) (W0 W : World) (I : Nat) (pl : Int) (hpl : (nthT ts i).place = pl) (hG : Goes P v ts i W0 W) (hP0 : ∀ {n : Nat}, W0.heap.size ≤ n → v.ownBlock ≠ some n ∧ P ≠ n) (hI : W0.heap.size ≤ I) (hB : Blk 59 I W (itC 0 [] [] (.slice none 0 0) noPlc noPlc pl)) (hE : Ended ts) (hi : i < ts.length) (hl : ts.length ≤ 2000000) (ht : (nthT ts i).text = [101, 100, 103, 101]) (h0 : Par P v ts i W0) :
    Calls Tryz.prog 69 #[.pointer (some ⟨P, 0, none⟩), .pointer (some ⟨I, 0, none⟩)] W (BodyEnd P v ts W0 I (edgeR ts i)) := by
  rcases h1 : textR ts [101, 100, 103, 101] i with ⟨_ | ⟨⟩, j1⟩
  · unfold textR at h1; rw [if_pos ht] at h1; cases h1
  rcases h2 : placeR ts j1 with ⟨_ | p2, j2⟩
  · exact edge_no2 P v ts i W0 W I pl hpl hG hP0 hI hB hE hi hl j1 j2 h1 h2
  rcases h3 : textR ts [45, 62] j2 with ⟨_ | ⟨⟩, j3⟩
  · exact edge_no3 P v ts i W0 W I pl hpl hG hP0 hI hB hE hi hl j1 j2 p2 j3 h1 h2 h3
  rcases h4 : placeR ts j3 with ⟨_ | p4, j4⟩
  · exact edge_no4 P v ts i W0 W I pl hpl hG hP0 hI hB hE hi hl j1 j2 p2 j3 j4 h1 h2 h3 h4
  by_cases hw : (nthT ts j4).text = [119, 105, 116, 104]
  · rcases hx : numR ts (j4 + 1) with ⟨_ | x, j6⟩
    · exact edge_noNum P v ts i W0 W I pl hpl hG hP0 hI hB hE hi hl j1 j2 p2 j3 j4 p4 j6 h1 h2 h3 h4 hw hx
    · exact edge_num P v ts i W0 W I pl hpl hG hP0 hI hB hE hi hl j1 j2 p2 j3 j4 p4 x j6 h1 h2 h3 h4 hw hx h0
  · exact edge_plain P v ts i W0 W I pl hpl hG hP0 hI hB hE hi hl j1 j2 p2 j3 j4 p4 h1 h2 h3 h4 hw
/-- How the reading of an item ends. -/
def ItemEnd (P : Nat) (v : Value) (ts : List Tok) (W : World) (r : Rd Itm) (e : Ending) (w' : World) : Prop :=
  match r with
  | (some x, j) => (∃ a c, e = .returned (.agg (itC x.kind x.name x.tag (.slice a x.nums.length c) x.frm x.to x.place)) ∧ Ints W.heap.size w' (.slice a x.nums.length c) x.nums) ∧ Goes P v ts j W w' ∧ j < ts.length
  | (none, j) => e = .panicked tokPanic ∧ Goes P v ts j W w' ∧ j < ts.length
theorem grown_of_below {W W1 w' : World} {P : Option Nat} (hb : Below W.heap.size W W1) (hg : W1.grownBy w' P) : W.grownBy w' P := Lib.grownBy_trans (below_grows hb P) hg

set_option maxRecDepth 100000 in
set_option maxHeartbeats 4000000 in
theorem item_actor_body (P : Nat) (v : Value) (ts : List Tok) (i : Nat) (W : World) (h : Par P v ts i W) (hE : Ended ts) (hi : i < ts.length) (hl : ts.length ≤ 2000000)  (t0 : (nthT ts i).text = [97, 99, 116, 111, 114]) (j1 : Nat) (hr : actorR ts i = (none, j1)) :
    Calls Tryz.prog 38 #[.pointer (some ⟨P, 0, none⟩)] W (ItemEnd P v ts W (itemR ts i)) := by
  have HM : itemR ts i = (none, j1) := by unfold itemR bodyR; rw [if_pos t0, hr, then_none]
  rw [HM]
  show Calls _ _ _ _ (fun e w' => e = .panicked tokPanic ∧ Goes P v ts j1 W w' ∧ j1 < ts.length)
  clear HM
  have hb0 := (Below.refl W.heap.size W).alloc (Nat.le_refl _) (.cells #[.int .u8 0, .string ⟨#[]⟩, .string ⟨#[]⟩, .slice none 0 0, .string ⟨#[]⟩, .int .i64 0, .int .i64 0, .string ⟨#[]⟩, .int .i64 0, .int .i64 0, .int .i64 0] 59)
  have HBK : Hid (v.ownBlock ≠ some W.heap.size ∧ P ≠ W.heap.size) := h.blk (Nat.le_refl _)
  have HB0 := hidden hb0
  have hR0 := blk_new 59 W #[.int .u8 0, .string ⟨#[]⟩, .string ⟨#[]⟩, .slice none 0 0, .string ⟨#[]⟩, .int .i64 0, .int .i64 0, .string ⟨#[]⟩, .int .i64 0, .int .i64 0, .int .i64 0]
  have hP1 := h.below hb0
  have hWs : (W.alloc (.cells #[.int .u8 0, .string ⟨#[]⟩, .string ⟨#[]⟩, .slice none 0 0, .string ⟨#[]⟩, .int .i64 0, .int .i64 0, .string ⟨#[]⟩, .int .i64 0, .int .i64 0, .int .i64 0] 59)).heap.size = W.heap.size + 1 := by simp
  have ff := tok_f3
  obtain ⟨W0, hW0⟩ : ∃ W0, W0 = W.alloc (.cells #[.int .u8 0, .string ⟨#[]⟩, .string ⟨#[]⟩, .slice none 0 0, .string ⟨#[]⟩, .int .i64 0, .int .i64 0, .string ⟨#[]⟩, .int .i64 0, .int .i64 0, .int .i64 0] 59) := ⟨_, rfl⟩
  rw [← hW0] at hb0 hR0 hP1 hWs HB0
  have HR0 := hidden hR0
  have HA := hidden (ahead_at P v ts i W0 hP1 hi hl)
  have HPW := hidden hP1
  have HBW : Hid (∀ {n : Nat}, W0.heap.size ≤ n → v.ownBlock ≠ some n ∧ P ≠ n) := fun hn => hP1.blk hn
  have HC : Hid (∀ I w1, W0.heap.size ≤ I → Goes P v ts i W0 w1 → Blk 59 I w1 (itC 0 [] [] (.slice none 0 0) noPlc noPlc (nthT ts i).place) → Calls Tryz.prog 68 #[.pointer (some ⟨P, 0, none⟩), .pointer (some ⟨I, 0, none⟩)] w1 fun e w' => e = .panicked tokPanic ∧ Goes P v ts j1 W0 w' ∧ j1 < ts.length) := fun I w1 q1 q2 q3 => by
    have := actor_any P v ts i W0 w1 I _ rfl q2 (fun hn => hP1.blk hn) q1 q3 hE hi hl t0
    rw [hr] at this
    exact this
  have HS0 : Hid (∀ w1, Par P v ts i w1 → Calls Tryz.prog 37 #[.pointer (some ⟨P, 0, none⟩), .string ⟨#[97, 99, 116, 111, 114]⟩] w1 fun e w' => e = .returned (.bool true) ∧ Below w1.heap.size w1 w') := fun w1 q => by
    have := says_at P v ts i w1 q hi hl [97, 99, 116, 111, 114]
    rw [decide_eq_true t0] at this
    exact this
  have HWL : Hid (W.heap.size < W0.heap.size) := by show _ < _; rw [hWs]; omega
  clear hWs
  clear h hb0 hR0 hP1 hr t0
  subst hW0
  unfold tokV at HA
  generalize nthT ts i = tk at *
  obtain ⟨so, tx, nm, pl⟩ := tk
  simp only at HA HC
  go_enter Tryz.func38, Tryz.ntmps38
  go_wp2_with (first
    | (go_at_call 68; (with_reducible refine (HC.out _ _ NE.out G2.out B2.out).mono ?_); rintro e wb ⟨rfl, hg, hj⟩; have GB := hidden hg; have HJ := hidden hj; clear hg hj)
    | (go_at_call 37; (with_reducible refine (HS0.out _ G1.out.par).mono ?_); rintro e w2 ⟨rfl, hb⟩; have G2 := hidden (G1.out.later hb); have B2 := hidden (B1.out.below hb); clear hb)
    | (go_at_call 17; (with_reducible refine HA.out.mono ?_); rintro e w1 ⟨rfl, hb⟩; have NE := hidden hb.size; have hb2 := hb.trans (((Below.refl w1.heap.size w1).alloc (Nat.le_refl _) (.cells #[.int .u8 0, .string ⟨#[]⟩, .string ⟨#[]⟩, .slice none 0 0, .string ⟨#[]⟩, .int .i64 0, .int .i64 0, .string ⟨#[]⟩, .int .i64 0, .int .i64 0, .int .i64 pl] 59)).mono hb.size); have G1 := hidden (Goes.stay HPW.out hb2); have B1 : Hid (Blk 59 w1.heap.size (w1.alloc (.cells #[.int .u8 0, .string ⟨#[]⟩, .string ⟨#[]⟩, .slice none 0 0, .string ⟨#[]⟩, .int .i64 0, .int .i64 0, .string ⟨#[]⟩, .int .i64 0, .int .i64 0, .int .i64 pl] 59)) (itC 0 [] [] (.slice none 0 0) noPlc noPlc pl)) := blk_new _ _ _; clear hb hb2))
  exact ⟨rfl, rfl, ⟨GB.out.par, grown_of_below HB0.out GB.out.grown⟩, HJ.out⟩

set_option maxRecDepth 100000 in
set_option maxHeartbeats 4000000 in
theorem item_actor_semi (P : Nat) (v : Value) (ts : List Tok) (i : Nat) (W : World) (h : Par P v ts i W) (hE : Ended ts) (hi : i < ts.length) (hl : ts.length ≤ 2000000)  (t0 : (nthT ts i).text = [97, 99, 116, 111, 114]) (x : Itm) (j1 j2 : Nat) (hr : actorR ts i = (some x, j1)) (hs : textR ts [59] j1 = (none, j2)) :
    Calls Tryz.prog 38 #[.pointer (some ⟨P, 0, none⟩)] W (ItemEnd P v ts W (itemR ts i)) := by
  have HM : itemR ts i = (none, j2) := by unfold itemR bodyR; rw [if_pos t0, hr, then_some, hs, then_none]
  rw [HM]
  show Calls _ _ _ _ (fun e w' => e = .panicked tokPanic ∧ Goes P v ts j2 W w' ∧ j2 < ts.length)
  clear HM
  have hb0 := (Below.refl W.heap.size W).alloc (Nat.le_refl _) (.cells #[.int .u8 0, .string ⟨#[]⟩, .string ⟨#[]⟩, .slice none 0 0, .string ⟨#[]⟩, .int .i64 0, .int .i64 0, .string ⟨#[]⟩, .int .i64 0, .int .i64 0, .int .i64 0] 59)
  have HBK : Hid (v.ownBlock ≠ some W.heap.size ∧ P ≠ W.heap.size) := h.blk (Nat.le_refl _)
  have HB0 := hidden hb0
  have hR0 := blk_new 59 W #[.int .u8 0, .string ⟨#[]⟩, .string ⟨#[]⟩, .slice none 0 0, .string ⟨#[]⟩, .int .i64 0, .int .i64 0, .string ⟨#[]⟩, .int .i64 0, .int .i64 0, .int .i64 0]
  have hP1 := h.below hb0
  have hWs : (W.alloc (.cells #[.int .u8 0, .string ⟨#[]⟩, .string ⟨#[]⟩, .slice none 0 0, .string ⟨#[]⟩, .int .i64 0, .int .i64 0, .string ⟨#[]⟩, .int .i64 0, .int .i64 0, .int .i64 0] 59)).heap.size = W.heap.size + 1 := by simp
  have ff := tok_f3
  obtain ⟨W0, hW0⟩ : ∃ W0, W0 = W.alloc (.cells #[.int .u8 0, .string ⟨#[]⟩, .string ⟨#[]⟩, .slice none 0 0, .string ⟨#[]⟩, .int .i64 0, .int .i64 0, .string ⟨#[]⟩, .int .i64 0, .int .i64 0, .int .i64 0] 59) := ⟨_, rfl⟩
  rw [← hW0] at hb0 hR0 hP1 hWs HB0
  have HR0 := hidden hR0
  have HA := hidden (ahead_at P v ts i W0 hP1 hi hl)
  have HPW := hidden hP1
  have HBW : Hid (∀ {n : Nat}, W0.heap.size ≤ n → v.ownBlock ≠ some n ∧ P ≠ n) := fun hn => hP1.blk hn
  have HC : Hid (∀ I w1, W0.heap.size ≤ I → Goes P v ts i W0 w1 → Blk 59 I w1 (itC 0 [] [] (.slice none 0 0) noPlc noPlc (nthT ts i).place) → Calls Tryz.prog 68 #[.pointer (some ⟨P, 0, none⟩), .pointer (some ⟨I, 0, none⟩)] w1 fun e w' => e = .returned (.tuple #[]) ∧ (∃ ns, Blk 59 I w' (itC x.kind x.name x.tag ns x.frm x.to x.place) ∧ Ints W0.heap.size w' ns x.nums) ∧ Goes P v ts j1 W0 w' ∧ j1 < ts.length) := fun I w1 q1 q2 q3 => by
    have := actor_any P v ts i W0 w1 I _ rfl q2 (fun hn => hP1.blk hn) q1 q3 hE hi hl t0
    rw [hr] at this
    exact this
  have HS0 : Hid (∀ w1, Par P v ts i w1 → Calls Tryz.prog 37 #[.pointer (some ⟨P, 0, none⟩), .string ⟨#[97, 99, 116, 111, 114]⟩] w1 fun e w' => e = .returned (.bool true) ∧ Below w1.heap.size w1 w') := fun w1 q => by
    have := says_at P v ts i w1 q hi hl [97, 99, 116, 111, 114]
    rw [decide_eq_true t0] at this
    exact this
  have HX : Hid (j1 < ts.length → j2 < ts.length ∧ ∀ w1, Par P v ts j1 w1 → Calls Tryz.prog 35 #[.pointer (some ⟨P, 0, none⟩), .string ⟨#[59]⟩] w1 fun e w' => e = .panicked tokPanic ∧ Goes P v ts j2 w1 w') := fun hj1 => ⟨(expect_none hs hj1 hl P v).1, (expect_none hs hj1 hl P v).2⟩
  have HWL : Hid (W.heap.size < W0.heap.size) := by show _ < _; rw [hWs]; omega
  clear hWs
  clear h hb0 hR0 hP1 hr hs t0
  subst hW0
  unfold tokV at HA
  generalize nthT ts i = tk at *
  obtain ⟨so, tx, nm, pl⟩ := tk
  simp only at HA HC
  go_enter Tryz.func38, Tryz.ntmps38
  go_wp2_with (first
    | (go_at_call 35; (with_reducible refine (HX2.out.2 _ GB.out.par).mono ?_); rintro e wc ⟨rfl, hg⟩; have GC := hidden (GB.out.trans hg); clear hg)
    | (go_at_call 68; (with_reducible refine (HC.out _ _ NE.out G2.out B2.out).mono ?_); rintro e wb ⟨rfl, ⟨ns, hbk, hin⟩, hg, hj⟩; obtain ⟨a, c, rfl⟩ := hin.shape; have GB := hidden hg; have BB := hidden hbk; have NB := hidden hin; have HX2 := hidden (HX.out hj); clear hg hj hbk hin)
    | (go_at_call 37; (with_reducible refine (HS0.out _ G1.out.par).mono ?_); rintro e w2 ⟨rfl, hb⟩; have G2 := hidden (G1.out.later hb); have B2 := hidden (B1.out.below hb); clear hb)
    | (go_at_call 17; (with_reducible refine HA.out.mono ?_); rintro e w1 ⟨rfl, hb⟩; have NE := hidden hb.size; have hb2 := hb.trans (((Below.refl w1.heap.size w1).alloc (Nat.le_refl _) (.cells #[.int .u8 0, .string ⟨#[]⟩, .string ⟨#[]⟩, .slice none 0 0, .string ⟨#[]⟩, .int .i64 0, .int .i64 0, .string ⟨#[]⟩, .int .i64 0, .int .i64 0, .int .i64 pl] 59)).mono hb.size); have G1 := hidden (Goes.stay HPW.out hb2); have B1 : Hid (Blk 59 w1.heap.size (w1.alloc (.cells #[.int .u8 0, .string ⟨#[]⟩, .string ⟨#[]⟩, .slice none 0 0, .string ⟨#[]⟩, .int .i64 0, .int .i64 0, .string ⟨#[]⟩, .int .i64 0, .int .i64 0, .int .i64 pl] 59)) (itC 0 [] [] (.slice none 0 0) noPlc noPlc pl)) := blk_new _ _ _; clear hb hb2))
  exact ⟨rfl, rfl, ⟨GC.out.par, grown_of_below HB0.out GC.out.grown⟩, HX2.out.1⟩

set_option maxRecDepth 100000 in
set_option maxHeartbeats 4000000 in
theorem item_actor_all (P : Nat) (v : Value) (ts : List Tok) (i : Nat) (W : World) (h : Par P v ts i W) (hE : Ended ts) (hi : i < ts.length) (hl : ts.length ≤ 2000000)  (t0 : (nthT ts i).text = [97, 99, 116, 111, 114]) (x : Itm) (j1 j2 : Nat) (hr : actorR ts i = (some x, j1)) (hs : textR ts [59] j1 = (some (), j2)) :
    Calls Tryz.prog 38 #[.pointer (some ⟨P, 0, none⟩)] W (ItemEnd P v ts W (itemR ts i)) := by
  have HM : itemR ts i = (some x, j2) := by unfold itemR bodyR; rw [if_pos t0, hr, then_some, hs, then_some]
  rw [HM]
  show Calls _ _ _ _ (fun e w' => (∃ a c, e = .returned (.agg (itC x.kind x.name x.tag (.slice a x.nums.length c) x.frm x.to x.place)) ∧ Ints W.heap.size w' (.slice a x.nums.length c) x.nums) ∧ Goes P v ts j2 W w' ∧ j2 < ts.length)
  clear HM
  have hb0 := (Below.refl W.heap.size W).alloc (Nat.le_refl _) (.cells #[.int .u8 0, .string ⟨#[]⟩, .string ⟨#[]⟩, .slice none 0 0, .string ⟨#[]⟩, .int .i64 0, .int .i64 0, .string ⟨#[]⟩, .int .i64 0, .int .i64 0, .int .i64 0] 59)
  have HBK : Hid (v.ownBlock ≠ some W.heap.size ∧ P ≠ W.heap.size) := h.blk (Nat.le_refl _)
  have HB0 := hidden hb0
  have hR0 := blk_new 59 W #[.int .u8 0, .string ⟨#[]⟩, .string ⟨#[]⟩, .slice none 0 0, .string ⟨#[]⟩, .int .i64 0, .int .i64 0, .string ⟨#[]⟩, .int .i64 0, .int .i64 0, .int .i64 0]
  have hP1 := h.below hb0
  have hWs : (W.alloc (.cells #[.int .u8 0, .string ⟨#[]⟩, .string ⟨#[]⟩, .slice none 0 0, .string ⟨#[]⟩, .int .i64 0, .int .i64 0, .string ⟨#[]⟩, .int .i64 0, .int .i64 0, .int .i64 0] 59)).heap.size = W.heap.size + 1 := by simp
  have ff := tok_f3
  obtain ⟨W0, hW0⟩ : ∃ W0, W0 = W.alloc (.cells #[.int .u8 0, .string ⟨#[]⟩, .string ⟨#[]⟩, .slice none 0 0, .string ⟨#[]⟩, .int .i64 0, .int .i64 0, .string ⟨#[]⟩, .int .i64 0, .int .i64 0, .int .i64 0] 59) := ⟨_, rfl⟩
  rw [← hW0] at hb0 hR0 hP1 hWs HB0
  have HR0 := hidden hR0
  have HA := hidden (ahead_at P v ts i W0 hP1 hi hl)
  have HPW := hidden hP1
  have HBW : Hid (∀ {n : Nat}, W0.heap.size ≤ n → v.ownBlock ≠ some n ∧ P ≠ n) := fun hn => hP1.blk hn
  have HC : Hid (∀ I w1, W0.heap.size ≤ I → Goes P v ts i W0 w1 → Blk 59 I w1 (itC 0 [] [] (.slice none 0 0) noPlc noPlc (nthT ts i).place) → Calls Tryz.prog 68 #[.pointer (some ⟨P, 0, none⟩), .pointer (some ⟨I, 0, none⟩)] w1 fun e w' => e = .returned (.tuple #[]) ∧ (∃ ns, Blk 59 I w' (itC x.kind x.name x.tag ns x.frm x.to x.place) ∧ Ints W0.heap.size w' ns x.nums) ∧ Goes P v ts j1 W0 w' ∧ j1 < ts.length) := fun I w1 q1 q2 q3 => by
    have := actor_any P v ts i W0 w1 I _ rfl q2 (fun hn => hP1.blk hn) q1 q3 hE hi hl t0
    rw [hr] at this
    exact this
  have HS0 : Hid (∀ w1, Par P v ts i w1 → Calls Tryz.prog 37 #[.pointer (some ⟨P, 0, none⟩), .string ⟨#[97, 99, 116, 111, 114]⟩] w1 fun e w' => e = .returned (.bool true) ∧ Below w1.heap.size w1 w') := fun w1 q => by
    have := says_at P v ts i w1 q hi hl [97, 99, 116, 111, 114]
    rw [decide_eq_true t0] at this
    exact this
  have HX : Hid (j1 < ts.length → j2 < ts.length ∧ ∀ w1, Par P v ts j1 w1 → Calls Tryz.prog 35 #[.pointer (some ⟨P, 0, none⟩), .string ⟨#[59]⟩] w1 fun e w' => e = .returned (.tuple #[]) ∧ Goes P v ts j2 w1 w') := fun hj1 => ⟨(expect_some hs hE hj1 hl (by decide) P v).1, (expect_some hs hE hj1 hl (by decide) P v).2⟩
  have HWL : Hid (W.heap.size < W0.heap.size) := by show _ < _; rw [hWs]; omega
  clear hWs
  clear h hb0 hR0 hP1 hr hs t0
  subst hW0
  unfold tokV at HA
  generalize nthT ts i = tk at *
  obtain ⟨so, tx, nm, pl⟩ := tk
  simp only at HA HC
  go_enter Tryz.func38, Tryz.ntmps38
  go_wp2_with (first
    | (go_at_call 35; (with_reducible refine (HX2.out.2 _ GB.out.par).mono ?_); rintro e wc ⟨rfl, hg⟩; have GC := hidden (GB.out.trans hg); have BC := BB.out.grown hg.grown (fun e => (HBW.out NE.out).2 (Option.some.inj e).symm); have NC := hidden (NB.out.grown hg.grown HPW.out.lt); have RC := HR0.out.grown GC.out.grown (fun e => HBK.out.2 (Option.some.inj e).symm); have c0 : wc.cell? ⟨w1.heap.size, 0, none⟩ = some (.int .u8 x.kind) := BC.cell (k := 0) rfl; have r0 : wc.cell? ⟨W.heap.size, 0, none⟩ = some (.int .u8 0) := RC.cell (k := 0) rfl; have f0 := RC.frozen 0; have c1 : wc.cell? ⟨w1.heap.size, 1, none⟩ = some (.string (str x.name)) := BC.cell (k := 1) rfl; have r1 : wc.cell? ⟨W.heap.size, 1, none⟩ = some (.string ⟨#[]⟩) := RC.cell (k := 1) rfl; have f1 := RC.frozen 1; have c2 : wc.cell? ⟨w1.heap.size, 2, none⟩ = some (.string (str x.tag)) := BC.cell (k := 2) rfl; have r2 : wc.cell? ⟨W.heap.size, 2, none⟩ = some (.string ⟨#[]⟩) := RC.cell (k := 2) rfl; have f2 := RC.frozen 2; have c3 : wc.cell? ⟨w1.heap.size, 3, none⟩ = some (.slice a x.nums.length c) := BC.cell (k := 3) rfl; have r3 : wc.cell? ⟨W.heap.size, 3, none⟩ = some (.slice none 0 0) := RC.cell (k := 3) rfl; have f3 := RC.frozen 3; have c4 : wc.cell? ⟨w1.heap.size, 4, none⟩ = some (.string (str x.frm.name)) := BC.cell (k := 4) rfl; have r4 : wc.cell? ⟨W.heap.size, 4, none⟩ = some (.string ⟨#[]⟩) := RC.cell (k := 4) rfl; have f4 := RC.frozen 4; have c5 : wc.cell? ⟨w1.heap.size, 5, none⟩ = some (.int .i64 x.frm.port) := BC.cell (k := 5) rfl; have r5 : wc.cell? ⟨W.heap.size, 5, none⟩ = some (.int .i64 0) := RC.cell (k := 5) rfl; have f5 := RC.frozen 5; have c6 : wc.cell? ⟨w1.heap.size, 6, none⟩ = some (.int .i64 x.frm.place) := BC.cell (k := 6) rfl; have r6 : wc.cell? ⟨W.heap.size, 6, none⟩ = some (.int .i64 0) := RC.cell (k := 6) rfl; have f6 := RC.frozen 6; have c7 : wc.cell? ⟨w1.heap.size, 7, none⟩ = some (.string (str x.to.name)) := BC.cell (k := 7) rfl; have r7 : wc.cell? ⟨W.heap.size, 7, none⟩ = some (.string ⟨#[]⟩) := RC.cell (k := 7) rfl; have f7 := RC.frozen 7; have c8 : wc.cell? ⟨w1.heap.size, 8, none⟩ = some (.int .i64 x.to.port) := BC.cell (k := 8) rfl; have r8 : wc.cell? ⟨W.heap.size, 8, none⟩ = some (.int .i64 0) := RC.cell (k := 8) rfl; have f8 := RC.frozen 8; have c9 : wc.cell? ⟨w1.heap.size, 9, none⟩ = some (.int .i64 x.to.place) := BC.cell (k := 9) rfl; have r9 : wc.cell? ⟨W.heap.size, 9, none⟩ = some (.int .i64 0) := RC.cell (k := 9) rfl; have f9 := RC.frozen 9; have c10 : wc.cell? ⟨w1.heap.size, 10, none⟩ = some (.int .i64 x.place) := BC.cell (k := 10) rfl; have r10 : wc.cell? ⟨W.heap.size, 10, none⟩ = some (.int .i64 0) := RC.cell (k := 10) rfl; have f10 := RC.frozen 10; clear BC RC; clear hg)
    | (go_at_call 68; (with_reducible refine (HC.out _ _ NE.out G2.out B2.out).mono ?_); rintro e wb ⟨rfl, ⟨ns, hbk, hin⟩, hg, hj⟩; obtain ⟨a, c, rfl⟩ := hin.shape; have GB := hidden hg; have BB := hidden hbk; have NB := hidden hin; have HX2 := hidden (HX.out hj); clear hg hj hbk hin)
    | (go_at_call 37; (with_reducible refine (HS0.out _ G1.out.par).mono ?_); rintro e w2 ⟨rfl, hb⟩; have G2 := hidden (G1.out.later hb); have B2 := hidden (B1.out.below hb); clear hb)
    | (go_at_call 17; (with_reducible refine HA.out.mono ?_); rintro e w1 ⟨rfl, hb⟩; have NE := hidden hb.size; have hb2 := hb.trans (((Below.refl w1.heap.size w1).alloc (Nat.le_refl _) (.cells #[.int .u8 0, .string ⟨#[]⟩, .string ⟨#[]⟩, .slice none 0 0, .string ⟨#[]⟩, .int .i64 0, .int .i64 0, .string ⟨#[]⟩, .int .i64 0, .int .i64 0, .int .i64 pl] 59)).mono hb.size); have G1 := hidden (Goes.stay HPW.out hb2); have B1 : Hid (Blk 59 w1.heap.size (w1.alloc (.cells #[.int .u8 0, .string ⟨#[]⟩, .string ⟨#[]⟩, .slice none 0 0, .string ⟨#[]⟩, .int .i64 0, .int .i64 0, .string ⟨#[]⟩, .int .i64 0, .int .i64 0, .int .i64 pl] 59)) (itC 0 [] [] (.slice none 0 0) noPlc noPlc pl)) := blk_new _ _ _; clear hb hb2))
  exact bodyPost_ret (v := .agg (itC x.kind x.name x.tag (.slice a x.nums.length c) x.frm x.to x.place)) (by simp [results, Tryz.results38, go_sem, r0, r1, r2, r3, r4, r5, r6, r7, r8, r9, r10, itC]) rfl ⟨⟨a, c, rfl, ((((((((((((NC.out.put HWL.out).put HWL.out).put HWL.out).put HWL.out).put HWL.out).put HWL.out).put HWL.out).put HWL.out).put HWL.out).put HWL.out).put HWL.out)).mono (Nat.le_of_lt HWL.out)⟩, ((((((((((((show Goes P v ts j2 W wc from ⟨GC.out.par, grown_of_below HB0.out GC.out.grown⟩).put HBK.out (Nat.le_refl _) _).put HBK.out (Nat.le_refl _) _).put HBK.out (Nat.le_refl _) _).put HBK.out (Nat.le_refl _) _).put HBK.out (Nat.le_refl _) _).put HBK.out (Nat.le_refl _) _).put HBK.out (Nat.le_refl _) _).put HBK.out (Nat.le_refl _) _).put HBK.out (Nat.le_refl _) _).put HBK.out (Nat.le_refl _) _).put HBK.out (Nat.le_refl _) _), HX2.out.1⟩

set_option maxRecDepth 100000 in
set_option maxHeartbeats 4000000 in
theorem item_edge_body (P : Nat) (v : Value) (ts : List Tok) (i : Nat) (W : World) (h : Par P v ts i W) (hE : Ended ts) (hi : i < ts.length) (hl : ts.length ≤ 2000000) (t0 : (nthT ts i).text ≠ [97, 99, 116, 111, 114]) (t1 : (nthT ts i).text = [101, 100, 103, 101]) (j1 : Nat) (hr : edgeR ts i = (none, j1)) :
    Calls Tryz.prog 38 #[.pointer (some ⟨P, 0, none⟩)] W (ItemEnd P v ts W (itemR ts i)) := by
  have HM : itemR ts i = (none, j1) := by unfold itemR bodyR; rw [if_neg t0, if_pos t1, hr, then_none]
  rw [HM]
  show Calls _ _ _ _ (fun e w' => e = .panicked tokPanic ∧ Goes P v ts j1 W w' ∧ j1 < ts.length)
  clear HM
  have hb0 := (Below.refl W.heap.size W).alloc (Nat.le_refl _) (.cells #[.int .u8 0, .string ⟨#[]⟩, .string ⟨#[]⟩, .slice none 0 0, .string ⟨#[]⟩, .int .i64 0, .int .i64 0, .string ⟨#[]⟩, .int .i64 0, .int .i64 0, .int .i64 0] 59)
  have HBK : Hid (v.ownBlock ≠ some W.heap.size ∧ P ≠ W.heap.size) := h.blk (Nat.le_refl _)
  have HB0 := hidden hb0
  have hR0 := blk_new 59 W #[.int .u8 0, .string ⟨#[]⟩, .string ⟨#[]⟩, .slice none 0 0, .string ⟨#[]⟩, .int .i64 0, .int .i64 0, .string ⟨#[]⟩, .int .i64 0, .int .i64 0, .int .i64 0]
  have hP1 := h.below hb0
  have hWs : (W.alloc (.cells #[.int .u8 0, .string ⟨#[]⟩, .string ⟨#[]⟩, .slice none 0 0, .string ⟨#[]⟩, .int .i64 0, .int .i64 0, .string ⟨#[]⟩, .int .i64 0, .int .i64 0, .int .i64 0] 59)).heap.size = W.heap.size + 1 := by simp
  have ff := tok_f3
  obtain ⟨W0, hW0⟩ : ∃ W0, W0 = W.alloc (.cells #[.int .u8 0, .string ⟨#[]⟩, .string ⟨#[]⟩, .slice none 0 0, .string ⟨#[]⟩, .int .i64 0, .int .i64 0, .string ⟨#[]⟩, .int .i64 0, .int .i64 0, .int .i64 0] 59) := ⟨_, rfl⟩
  rw [← hW0] at hb0 hR0 hP1 hWs HB0
  have HR0 := hidden hR0
  have HA := hidden (ahead_at P v ts i W0 hP1 hi hl)
  have HPW := hidden hP1
  have HBW : Hid (∀ {n : Nat}, W0.heap.size ≤ n → v.ownBlock ≠ some n ∧ P ≠ n) := fun hn => hP1.blk hn
  have HC : Hid (∀ I w1, W0.heap.size ≤ I → Goes P v ts i W0 w1 → Blk 59 I w1 (itC 0 [] [] (.slice none 0 0) noPlc noPlc (nthT ts i).place) → Calls Tryz.prog 69 #[.pointer (some ⟨P, 0, none⟩), .pointer (some ⟨I, 0, none⟩)] w1 fun e w' => e = .panicked tokPanic ∧ Goes P v ts j1 W0 w' ∧ j1 < ts.length) := fun I w1 q1 q2 q3 => by
    have := edge_any P v ts i W0 w1 I _ rfl q2 (fun hn => hP1.blk hn) q1 q3 hE hi hl t1 hP1
    rw [hr] at this
    exact this
  have HS0 : Hid (∀ w1, Par P v ts i w1 → Calls Tryz.prog 37 #[.pointer (some ⟨P, 0, none⟩), .string ⟨#[97, 99, 116, 111, 114]⟩] w1 fun e w' => e = .returned (.bool false) ∧ Below w1.heap.size w1 w') := fun w1 q => by
    have := says_at P v ts i w1 q hi hl [97, 99, 116, 111, 114]
    rw [decide_eq_false t0] at this
    exact this
  have HS1 : Hid (∀ w1, Par P v ts i w1 → Calls Tryz.prog 37 #[.pointer (some ⟨P, 0, none⟩), .string ⟨#[101, 100, 103, 101]⟩] w1 fun e w' => e = .returned (.bool true) ∧ Below w1.heap.size w1 w') := fun w1 q => by
    have := says_at P v ts i w1 q hi hl [101, 100, 103, 101]
    rw [decide_eq_true t1] at this
    exact this
  have HWL : Hid (W.heap.size < W0.heap.size) := by show _ < _; rw [hWs]; omega
  clear hWs
  clear h hb0 hR0 hP1 hr t0 t1
  subst hW0
  unfold tokV at HA
  generalize nthT ts i = tk at *
  obtain ⟨so, tx, nm, pl⟩ := tk
  simp only at HA HC
  go_enter Tryz.func38, Tryz.ntmps38
  go_wp2_with (first
    | (go_at_call 69; (with_reducible refine (HC.out _ _ NE.out G3.out B3.out).mono ?_); rintro e wb ⟨rfl, hg, hj⟩; have GB := hidden hg; have HJ := hidden hj; clear hg hj)
    | (go_at_call 37; (with_reducible refine (HS1.out _ G2.out.par).mono ?_); rintro e w3 ⟨rfl, hb⟩; have G3 := hidden (G2.out.later hb); have B3 := hidden (B2.out.below hb); clear hb)
    | (go_at_call 37; (with_reducible refine (HS0.out _ G1.out.par).mono ?_); rintro e w2 ⟨rfl, hb⟩; have G2 := hidden (G1.out.later hb); have B2 := hidden (B1.out.below hb); clear hb)
    | (go_at_call 17; (with_reducible refine HA.out.mono ?_); rintro e w1 ⟨rfl, hb⟩; have NE := hidden hb.size; have hb2 := hb.trans (((Below.refl w1.heap.size w1).alloc (Nat.le_refl _) (.cells #[.int .u8 0, .string ⟨#[]⟩, .string ⟨#[]⟩, .slice none 0 0, .string ⟨#[]⟩, .int .i64 0, .int .i64 0, .string ⟨#[]⟩, .int .i64 0, .int .i64 0, .int .i64 pl] 59)).mono hb.size); have G1 := hidden (Goes.stay HPW.out hb2); have B1 : Hid (Blk 59 w1.heap.size (w1.alloc (.cells #[.int .u8 0, .string ⟨#[]⟩, .string ⟨#[]⟩, .slice none 0 0, .string ⟨#[]⟩, .int .i64 0, .int .i64 0, .string ⟨#[]⟩, .int .i64 0, .int .i64 0, .int .i64 pl] 59)) (itC 0 [] [] (.slice none 0 0) noPlc noPlc pl)) := blk_new _ _ _; clear hb hb2))
  exact ⟨rfl, rfl, ⟨GB.out.par, grown_of_below HB0.out GB.out.grown⟩, HJ.out⟩

set_option maxRecDepth 100000 in
set_option maxHeartbeats 4000000 in
theorem item_edge_semi (P : Nat) (v : Value) (ts : List Tok) (i : Nat) (W : World) (h : Par P v ts i W) (hE : Ended ts) (hi : i < ts.length) (hl : ts.length ≤ 2000000) (t0 : (nthT ts i).text ≠ [97, 99, 116, 111, 114]) (t1 : (nthT ts i).text = [101, 100, 103, 101]) (x : Itm) (j1 j2 : Nat) (hr : edgeR ts i = (some x, j1)) (hs : textR ts [59] j1 = (none, j2)) :
    Calls Tryz.prog 38 #[.pointer (some ⟨P, 0, none⟩)] W (ItemEnd P v ts W (itemR ts i)) := by
  have HM : itemR ts i = (none, j2) := by unfold itemR bodyR; rw [if_neg t0, if_pos t1, hr, then_some, hs, then_none]
  rw [HM]
  show Calls _ _ _ _ (fun e w' => e = .panicked tokPanic ∧ Goes P v ts j2 W w' ∧ j2 < ts.length)
  clear HM
  have hb0 := (Below.refl W.heap.size W).alloc (Nat.le_refl _) (.cells #[.int .u8 0, .string ⟨#[]⟩, .string ⟨#[]⟩, .slice none 0 0, .string ⟨#[]⟩, .int .i64 0, .int .i64 0, .string ⟨#[]⟩, .int .i64 0, .int .i64 0, .int .i64 0] 59)
  have HBK : Hid (v.ownBlock ≠ some W.heap.size ∧ P ≠ W.heap.size) := h.blk (Nat.le_refl _)
  have HB0 := hidden hb0
  have hR0 := blk_new 59 W #[.int .u8 0, .string ⟨#[]⟩, .string ⟨#[]⟩, .slice none 0 0, .string ⟨#[]⟩, .int .i64 0, .int .i64 0, .string ⟨#[]⟩, .int .i64 0, .int .i64 0, .int .i64 0]
  have hP1 := h.below hb0
  have hWs : (W.alloc (.cells #[.int .u8 0, .string ⟨#[]⟩, .string ⟨#[]⟩, .slice none 0 0, .string ⟨#[]⟩, .int .i64 0, .int .i64 0, .string ⟨#[]⟩, .int .i64 0, .int .i64 0, .int .i64 0] 59)).heap.size = W.heap.size + 1 := by simp
  have ff := tok_f3
  obtain ⟨W0, hW0⟩ : ∃ W0, W0 = W.alloc (.cells #[.int .u8 0, .string ⟨#[]⟩, .string ⟨#[]⟩, .slice none 0 0, .string ⟨#[]⟩, .int .i64 0, .int .i64 0, .string ⟨#[]⟩, .int .i64 0, .int .i64 0, .int .i64 0] 59) := ⟨_, rfl⟩
  rw [← hW0] at hb0 hR0 hP1 hWs HB0
  have HR0 := hidden hR0
  have HA := hidden (ahead_at P v ts i W0 hP1 hi hl)
  have HPW := hidden hP1
  have HBW : Hid (∀ {n : Nat}, W0.heap.size ≤ n → v.ownBlock ≠ some n ∧ P ≠ n) := fun hn => hP1.blk hn
  have HC : Hid (∀ I w1, W0.heap.size ≤ I → Goes P v ts i W0 w1 → Blk 59 I w1 (itC 0 [] [] (.slice none 0 0) noPlc noPlc (nthT ts i).place) → Calls Tryz.prog 69 #[.pointer (some ⟨P, 0, none⟩), .pointer (some ⟨I, 0, none⟩)] w1 fun e w' => e = .returned (.tuple #[]) ∧ (∃ ns, Blk 59 I w' (itC x.kind x.name x.tag ns x.frm x.to x.place) ∧ Ints W0.heap.size w' ns x.nums) ∧ Goes P v ts j1 W0 w' ∧ j1 < ts.length) := fun I w1 q1 q2 q3 => by
    have := edge_any P v ts i W0 w1 I _ rfl q2 (fun hn => hP1.blk hn) q1 q3 hE hi hl t1 hP1
    rw [hr] at this
    exact this
  have HS0 : Hid (∀ w1, Par P v ts i w1 → Calls Tryz.prog 37 #[.pointer (some ⟨P, 0, none⟩), .string ⟨#[97, 99, 116, 111, 114]⟩] w1 fun e w' => e = .returned (.bool false) ∧ Below w1.heap.size w1 w') := fun w1 q => by
    have := says_at P v ts i w1 q hi hl [97, 99, 116, 111, 114]
    rw [decide_eq_false t0] at this
    exact this
  have HS1 : Hid (∀ w1, Par P v ts i w1 → Calls Tryz.prog 37 #[.pointer (some ⟨P, 0, none⟩), .string ⟨#[101, 100, 103, 101]⟩] w1 fun e w' => e = .returned (.bool true) ∧ Below w1.heap.size w1 w') := fun w1 q => by
    have := says_at P v ts i w1 q hi hl [101, 100, 103, 101]
    rw [decide_eq_true t1] at this
    exact this
  have HX : Hid (j1 < ts.length → j2 < ts.length ∧ ∀ w1, Par P v ts j1 w1 → Calls Tryz.prog 35 #[.pointer (some ⟨P, 0, none⟩), .string ⟨#[59]⟩] w1 fun e w' => e = .panicked tokPanic ∧ Goes P v ts j2 w1 w') := fun hj1 => ⟨(expect_none hs hj1 hl P v).1, (expect_none hs hj1 hl P v).2⟩
  have HWL : Hid (W.heap.size < W0.heap.size) := by show _ < _; rw [hWs]; omega
  clear hWs
  clear h hb0 hR0 hP1 hr hs t0 t1
  subst hW0
  unfold tokV at HA
  generalize nthT ts i = tk at *
  obtain ⟨so, tx, nm, pl⟩ := tk
  simp only at HA HC
  go_enter Tryz.func38, Tryz.ntmps38
  go_wp2_with (first
    | (go_at_call 35; (with_reducible refine (HX2.out.2 _ GB.out.par).mono ?_); rintro e wc ⟨rfl, hg⟩; have GC := hidden (GB.out.trans hg); clear hg)
    | (go_at_call 69; (with_reducible refine (HC.out _ _ NE.out G3.out B3.out).mono ?_); rintro e wb ⟨rfl, ⟨ns, hbk, hin⟩, hg, hj⟩; obtain ⟨a, c, rfl⟩ := hin.shape; have GB := hidden hg; have BB := hidden hbk; have NB := hidden hin; have HX2 := hidden (HX.out hj); clear hg hj hbk hin)
    | (go_at_call 37; (with_reducible refine (HS1.out _ G2.out.par).mono ?_); rintro e w3 ⟨rfl, hb⟩; have G3 := hidden (G2.out.later hb); have B3 := hidden (B2.out.below hb); clear hb)
    | (go_at_call 37; (with_reducible refine (HS0.out _ G1.out.par).mono ?_); rintro e w2 ⟨rfl, hb⟩; have G2 := hidden (G1.out.later hb); have B2 := hidden (B1.out.below hb); clear hb)
    | (go_at_call 17; (with_reducible refine HA.out.mono ?_); rintro e w1 ⟨rfl, hb⟩; have NE := hidden hb.size; have hb2 := hb.trans (((Below.refl w1.heap.size w1).alloc (Nat.le_refl _) (.cells #[.int .u8 0, .string ⟨#[]⟩, .string ⟨#[]⟩, .slice none 0 0, .string ⟨#[]⟩, .int .i64 0, .int .i64 0, .string ⟨#[]⟩, .int .i64 0, .int .i64 0, .int .i64 pl] 59)).mono hb.size); have G1 := hidden (Goes.stay HPW.out hb2); have B1 : Hid (Blk 59 w1.heap.size (w1.alloc (.cells #[.int .u8 0, .string ⟨#[]⟩, .string ⟨#[]⟩, .slice none 0 0, .string ⟨#[]⟩, .int .i64 0, .int .i64 0, .string ⟨#[]⟩, .int .i64 0, .int .i64 0, .int .i64 pl] 59)) (itC 0 [] [] (.slice none 0 0) noPlc noPlc pl)) := blk_new _ _ _; clear hb hb2))
  exact ⟨rfl, rfl, ⟨GC.out.par, grown_of_below HB0.out GC.out.grown⟩, HX2.out.1⟩

set_option maxRecDepth 100000 in
set_option maxHeartbeats 4000000 in
theorem item_edge_all (P : Nat) (v : Value) (ts : List Tok) (i : Nat) (W : World) (h : Par P v ts i W) (hE : Ended ts) (hi : i < ts.length) (hl : ts.length ≤ 2000000) (t0 : (nthT ts i).text ≠ [97, 99, 116, 111, 114]) (t1 : (nthT ts i).text = [101, 100, 103, 101]) (x : Itm) (j1 j2 : Nat) (hr : edgeR ts i = (some x, j1)) (hs : textR ts [59] j1 = (some (), j2)) :
    Calls Tryz.prog 38 #[.pointer (some ⟨P, 0, none⟩)] W (ItemEnd P v ts W (itemR ts i)) := by
  have HM : itemR ts i = (some x, j2) := by unfold itemR bodyR; rw [if_neg t0, if_pos t1, hr, then_some, hs, then_some]
  rw [HM]
  show Calls _ _ _ _ (fun e w' => (∃ a c, e = .returned (.agg (itC x.kind x.name x.tag (.slice a x.nums.length c) x.frm x.to x.place)) ∧ Ints W.heap.size w' (.slice a x.nums.length c) x.nums) ∧ Goes P v ts j2 W w' ∧ j2 < ts.length)
  clear HM
  have hb0 := (Below.refl W.heap.size W).alloc (Nat.le_refl _) (.cells #[.int .u8 0, .string ⟨#[]⟩, .string ⟨#[]⟩, .slice none 0 0, .string ⟨#[]⟩, .int .i64 0, .int .i64 0, .string ⟨#[]⟩, .int .i64 0, .int .i64 0, .int .i64 0] 59)
  have HBK : Hid (v.ownBlock ≠ some W.heap.size ∧ P ≠ W.heap.size) := h.blk (Nat.le_refl _)
  have HB0 := hidden hb0
  have hR0 := blk_new 59 W #[.int .u8 0, .string ⟨#[]⟩, .string ⟨#[]⟩, .slice none 0 0, .string ⟨#[]⟩, .int .i64 0, .int .i64 0, .string ⟨#[]⟩, .int .i64 0, .int .i64 0, .int .i64 0]
  have hP1 := h.below hb0
  have hWs : (W.alloc (.cells #[.int .u8 0, .string ⟨#[]⟩, .string ⟨#[]⟩, .slice none 0 0, .string ⟨#[]⟩, .int .i64 0, .int .i64 0, .string ⟨#[]⟩, .int .i64 0, .int .i64 0, .int .i64 0] 59)).heap.size = W.heap.size + 1 := by simp
  have ff := tok_f3
  obtain ⟨W0, hW0⟩ : ∃ W0, W0 = W.alloc (.cells #[.int .u8 0, .string ⟨#[]⟩, .string ⟨#[]⟩, .slice none 0 0, .string ⟨#[]⟩, .int .i64 0, .int .i64 0, .string ⟨#[]⟩, .int .i64 0, .int .i64 0, .int .i64 0] 59) := ⟨_, rfl⟩
  rw [← hW0] at hb0 hR0 hP1 hWs HB0
  have HR0 := hidden hR0
  have HA := hidden (ahead_at P v ts i W0 hP1 hi hl)
  have HPW := hidden hP1
  have HBW : Hid (∀ {n : Nat}, W0.heap.size ≤ n → v.ownBlock ≠ some n ∧ P ≠ n) := fun hn => hP1.blk hn
  have HC : Hid (∀ I w1, W0.heap.size ≤ I → Goes P v ts i W0 w1 → Blk 59 I w1 (itC 0 [] [] (.slice none 0 0) noPlc noPlc (nthT ts i).place) → Calls Tryz.prog 69 #[.pointer (some ⟨P, 0, none⟩), .pointer (some ⟨I, 0, none⟩)] w1 fun e w' => e = .returned (.tuple #[]) ∧ (∃ ns, Blk 59 I w' (itC x.kind x.name x.tag ns x.frm x.to x.place) ∧ Ints W0.heap.size w' ns x.nums) ∧ Goes P v ts j1 W0 w' ∧ j1 < ts.length) := fun I w1 q1 q2 q3 => by
    have := edge_any P v ts i W0 w1 I _ rfl q2 (fun hn => hP1.blk hn) q1 q3 hE hi hl t1 hP1
    rw [hr] at this
    exact this
  have HS0 : Hid (∀ w1, Par P v ts i w1 → Calls Tryz.prog 37 #[.pointer (some ⟨P, 0, none⟩), .string ⟨#[97, 99, 116, 111, 114]⟩] w1 fun e w' => e = .returned (.bool false) ∧ Below w1.heap.size w1 w') := fun w1 q => by
    have := says_at P v ts i w1 q hi hl [97, 99, 116, 111, 114]
    rw [decide_eq_false t0] at this
    exact this
  have HS1 : Hid (∀ w1, Par P v ts i w1 → Calls Tryz.prog 37 #[.pointer (some ⟨P, 0, none⟩), .string ⟨#[101, 100, 103, 101]⟩] w1 fun e w' => e = .returned (.bool true) ∧ Below w1.heap.size w1 w') := fun w1 q => by
    have := says_at P v ts i w1 q hi hl [101, 100, 103, 101]
    rw [decide_eq_true t1] at this
    exact this
  have HX : Hid (j1 < ts.length → j2 < ts.length ∧ ∀ w1, Par P v ts j1 w1 → Calls Tryz.prog 35 #[.pointer (some ⟨P, 0, none⟩), .string ⟨#[59]⟩] w1 fun e w' => e = .returned (.tuple #[]) ∧ Goes P v ts j2 w1 w') := fun hj1 => ⟨(expect_some hs hE hj1 hl (by decide) P v).1, (expect_some hs hE hj1 hl (by decide) P v).2⟩
  have HWL : Hid (W.heap.size < W0.heap.size) := by show _ < _; rw [hWs]; omega
  clear hWs
  clear h hb0 hR0 hP1 hr hs t0 t1
  subst hW0
  unfold tokV at HA
  generalize nthT ts i = tk at *
  obtain ⟨so, tx, nm, pl⟩ := tk
  simp only at HA HC
  go_enter Tryz.func38, Tryz.ntmps38
  go_wp2_with (first
    | (go_at_call 35; (with_reducible refine (HX2.out.2 _ GB.out.par).mono ?_); rintro e wc ⟨rfl, hg⟩; have GC := hidden (GB.out.trans hg); have BC := BB.out.grown hg.grown (fun e => (HBW.out NE.out).2 (Option.some.inj e).symm); have NC := hidden (NB.out.grown hg.grown HPW.out.lt); have RC := HR0.out.grown GC.out.grown (fun e => HBK.out.2 (Option.some.inj e).symm); have c0 : wc.cell? ⟨w1.heap.size, 0, none⟩ = some (.int .u8 x.kind) := BC.cell (k := 0) rfl; have r0 : wc.cell? ⟨W.heap.size, 0, none⟩ = some (.int .u8 0) := RC.cell (k := 0) rfl; have f0 := RC.frozen 0; have c1 : wc.cell? ⟨w1.heap.size, 1, none⟩ = some (.string (str x.name)) := BC.cell (k := 1) rfl; have r1 : wc.cell? ⟨W.heap.size, 1, none⟩ = some (.string ⟨#[]⟩) := RC.cell (k := 1) rfl; have f1 := RC.frozen 1; have c2 : wc.cell? ⟨w1.heap.size, 2, none⟩ = some (.string (str x.tag)) := BC.cell (k := 2) rfl; have r2 : wc.cell? ⟨W.heap.size, 2, none⟩ = some (.string ⟨#[]⟩) := RC.cell (k := 2) rfl; have f2 := RC.frozen 2; have c3 : wc.cell? ⟨w1.heap.size, 3, none⟩ = some (.slice a x.nums.length c) := BC.cell (k := 3) rfl; have r3 : wc.cell? ⟨W.heap.size, 3, none⟩ = some (.slice none 0 0) := RC.cell (k := 3) rfl; have f3 := RC.frozen 3; have c4 : wc.cell? ⟨w1.heap.size, 4, none⟩ = some (.string (str x.frm.name)) := BC.cell (k := 4) rfl; have r4 : wc.cell? ⟨W.heap.size, 4, none⟩ = some (.string ⟨#[]⟩) := RC.cell (k := 4) rfl; have f4 := RC.frozen 4; have c5 : wc.cell? ⟨w1.heap.size, 5, none⟩ = some (.int .i64 x.frm.port) := BC.cell (k := 5) rfl; have r5 : wc.cell? ⟨W.heap.size, 5, none⟩ = some (.int .i64 0) := RC.cell (k := 5) rfl; have f5 := RC.frozen 5; have c6 : wc.cell? ⟨w1.heap.size, 6, none⟩ = some (.int .i64 x.frm.place) := BC.cell (k := 6) rfl; have r6 : wc.cell? ⟨W.heap.size, 6, none⟩ = some (.int .i64 0) := RC.cell (k := 6) rfl; have f6 := RC.frozen 6; have c7 : wc.cell? ⟨w1.heap.size, 7, none⟩ = some (.string (str x.to.name)) := BC.cell (k := 7) rfl; have r7 : wc.cell? ⟨W.heap.size, 7, none⟩ = some (.string ⟨#[]⟩) := RC.cell (k := 7) rfl; have f7 := RC.frozen 7; have c8 : wc.cell? ⟨w1.heap.size, 8, none⟩ = some (.int .i64 x.to.port) := BC.cell (k := 8) rfl; have r8 : wc.cell? ⟨W.heap.size, 8, none⟩ = some (.int .i64 0) := RC.cell (k := 8) rfl; have f8 := RC.frozen 8; have c9 : wc.cell? ⟨w1.heap.size, 9, none⟩ = some (.int .i64 x.to.place) := BC.cell (k := 9) rfl; have r9 : wc.cell? ⟨W.heap.size, 9, none⟩ = some (.int .i64 0) := RC.cell (k := 9) rfl; have f9 := RC.frozen 9; have c10 : wc.cell? ⟨w1.heap.size, 10, none⟩ = some (.int .i64 x.place) := BC.cell (k := 10) rfl; have r10 : wc.cell? ⟨W.heap.size, 10, none⟩ = some (.int .i64 0) := RC.cell (k := 10) rfl; have f10 := RC.frozen 10; clear BC RC; clear hg)
    | (go_at_call 69; (with_reducible refine (HC.out _ _ NE.out G3.out B3.out).mono ?_); rintro e wb ⟨rfl, ⟨ns, hbk, hin⟩, hg, hj⟩; obtain ⟨a, c, rfl⟩ := hin.shape; have GB := hidden hg; have BB := hidden hbk; have NB := hidden hin; have HX2 := hidden (HX.out hj); clear hg hj hbk hin)
    | (go_at_call 37; (with_reducible refine (HS1.out _ G2.out.par).mono ?_); rintro e w3 ⟨rfl, hb⟩; have G3 := hidden (G2.out.later hb); have B3 := hidden (B2.out.below hb); clear hb)
    | (go_at_call 37; (with_reducible refine (HS0.out _ G1.out.par).mono ?_); rintro e w2 ⟨rfl, hb⟩; have G2 := hidden (G1.out.later hb); have B2 := hidden (B1.out.below hb); clear hb)
    | (go_at_call 17; (with_reducible refine HA.out.mono ?_); rintro e w1 ⟨rfl, hb⟩; have NE := hidden hb.size; have hb2 := hb.trans (((Below.refl w1.heap.size w1).alloc (Nat.le_refl _) (.cells #[.int .u8 0, .string ⟨#[]⟩, .string ⟨#[]⟩, .slice none 0 0, .string ⟨#[]⟩, .int .i64 0, .int .i64 0, .string ⟨#[]⟩, .int .i64 0, .int .i64 0, .int .i64 pl] 59)).mono hb.size); have G1 := hidden (Goes.stay HPW.out hb2); have B1 : Hid (Blk 59 w1.heap.size (w1.alloc (.cells #[.int .u8 0, .string ⟨#[]⟩, .string ⟨#[]⟩, .slice none 0 0, .string ⟨#[]⟩, .int .i64 0, .int .i64 0, .string ⟨#[]⟩, .int .i64 0, .int .i64 0, .int .i64 pl] 59)) (itC 0 [] [] (.slice none 0 0) noPlc noPlc pl)) := blk_new _ _ _; clear hb hb2))
  exact bodyPost_ret (v := .agg (itC x.kind x.name x.tag (.slice a x.nums.length c) x.frm x.to x.place)) (by simp [results, Tryz.results38, go_sem, r0, r1, r2, r3, r4, r5, r6, r7, r8, r9, r10, itC]) rfl ⟨⟨a, c, rfl, ((((((((((((NC.out.put HWL.out).put HWL.out).put HWL.out).put HWL.out).put HWL.out).put HWL.out).put HWL.out).put HWL.out).put HWL.out).put HWL.out).put HWL.out)).mono (Nat.le_of_lt HWL.out)⟩, ((((((((((((show Goes P v ts j2 W wc from ⟨GC.out.par, grown_of_below HB0.out GC.out.grown⟩).put HBK.out (Nat.le_refl _) _).put HBK.out (Nat.le_refl _) _).put HBK.out (Nat.le_refl _) _).put HBK.out (Nat.le_refl _) _).put HBK.out (Nat.le_refl _) _).put HBK.out (Nat.le_refl _) _).put HBK.out (Nat.le_refl _) _).put HBK.out (Nat.le_refl _) _).put HBK.out (Nat.le_refl _) _).put HBK.out (Nat.le_refl _) _).put HBK.out (Nat.le_refl _) _), HX2.out.1⟩

set_option maxRecDepth 100000 in
set_option maxHeartbeats 4000000 in
theorem item_in_body (P : Nat) (v : Value) (ts : List Tok) (i : Nat) (W : World) (h : Par P v ts i W) (hE : Ended ts) (hi : i < ts.length) (hl : ts.length ≤ 2000000) (t0 : (nthT ts i).text ≠ [97, 99, 116, 111, 114]) (t1 : (nthT ts i).text ≠ [101, 100, 103, 101]) (t2 : (nthT ts i).text = [105, 110]) (j1 : Nat) (hr : inR ts i = (none, j1)) :
    Calls Tryz.prog 38 #[.pointer (some ⟨P, 0, none⟩)] W (ItemEnd P v ts W (itemR ts i)) := by
  have HM : itemR ts i = (none, j1) := by unfold itemR bodyR; rw [if_neg t0, if_neg t1, if_pos t2, hr, then_none]
  rw [HM]
  show Calls _ _ _ _ (fun e w' => e = .panicked tokPanic ∧ Goes P v ts j1 W w' ∧ j1 < ts.length)
  clear HM
  have hb0 := (Below.refl W.heap.size W).alloc (Nat.le_refl _) (.cells #[.int .u8 0, .string ⟨#[]⟩, .string ⟨#[]⟩, .slice none 0 0, .string ⟨#[]⟩, .int .i64 0, .int .i64 0, .string ⟨#[]⟩, .int .i64 0, .int .i64 0, .int .i64 0] 59)
  have HBK : Hid (v.ownBlock ≠ some W.heap.size ∧ P ≠ W.heap.size) := h.blk (Nat.le_refl _)
  have HB0 := hidden hb0
  have hR0 := blk_new 59 W #[.int .u8 0, .string ⟨#[]⟩, .string ⟨#[]⟩, .slice none 0 0, .string ⟨#[]⟩, .int .i64 0, .int .i64 0, .string ⟨#[]⟩, .int .i64 0, .int .i64 0, .int .i64 0]
  have hP1 := h.below hb0
  have hWs : (W.alloc (.cells #[.int .u8 0, .string ⟨#[]⟩, .string ⟨#[]⟩, .slice none 0 0, .string ⟨#[]⟩, .int .i64 0, .int .i64 0, .string ⟨#[]⟩, .int .i64 0, .int .i64 0, .int .i64 0] 59)).heap.size = W.heap.size + 1 := by simp
  have ff := tok_f3
  obtain ⟨W0, hW0⟩ : ∃ W0, W0 = W.alloc (.cells #[.int .u8 0, .string ⟨#[]⟩, .string ⟨#[]⟩, .slice none 0 0, .string ⟨#[]⟩, .int .i64 0, .int .i64 0, .string ⟨#[]⟩, .int .i64 0, .int .i64 0, .int .i64 0] 59) := ⟨_, rfl⟩
  rw [← hW0] at hb0 hR0 hP1 hWs HB0
  have HR0 := hidden hR0
  have HA := hidden (ahead_at P v ts i W0 hP1 hi hl)
  have HPW := hidden hP1
  have HBW : Hid (∀ {n : Nat}, W0.heap.size ≤ n → v.ownBlock ≠ some n ∧ P ≠ n) := fun hn => hP1.blk hn
  have HC : Hid (∀ I w1, W0.heap.size ≤ I → Goes P v ts i W0 w1 → Blk 59 I w1 (itC 0 [] [] (.slice none 0 0) noPlc noPlc (nthT ts i).place) → Calls Tryz.prog 70 #[.pointer (some ⟨P, 0, none⟩), .pointer (some ⟨I, 0, none⟩)] w1 fun e w' => e = .panicked tokPanic ∧ Goes P v ts j1 W0 w' ∧ j1 < ts.length) := fun I w1 q1 q2 q3 => by
    have := inB_any P v ts i W0 w1 I _ rfl q2 (fun hn => hP1.blk hn) q1 q3 hE hi hl t2
    rw [hr] at this
    exact this
  have HS0 : Hid (∀ w1, Par P v ts i w1 → Calls Tryz.prog 37 #[.pointer (some ⟨P, 0, none⟩), .string ⟨#[97, 99, 116, 111, 114]⟩] w1 fun e w' => e = .returned (.bool false) ∧ Below w1.heap.size w1 w') := fun w1 q => by
    have := says_at P v ts i w1 q hi hl [97, 99, 116, 111, 114]
    rw [decide_eq_false t0] at this
    exact this
  have HS1 : Hid (∀ w1, Par P v ts i w1 → Calls Tryz.prog 37 #[.pointer (some ⟨P, 0, none⟩), .string ⟨#[101, 100, 103, 101]⟩] w1 fun e w' => e = .returned (.bool false) ∧ Below w1.heap.size w1 w') := fun w1 q => by
    have := says_at P v ts i w1 q hi hl [101, 100, 103, 101]
    rw [decide_eq_false t1] at this
    exact this
  have HS2 : Hid (∀ w1, Par P v ts i w1 → Calls Tryz.prog 37 #[.pointer (some ⟨P, 0, none⟩), .string ⟨#[105, 110]⟩] w1 fun e w' => e = .returned (.bool true) ∧ Below w1.heap.size w1 w') := fun w1 q => by
    have := says_at P v ts i w1 q hi hl [105, 110]
    rw [decide_eq_true t2] at this
    exact this
  have HWL : Hid (W.heap.size < W0.heap.size) := by show _ < _; rw [hWs]; omega
  clear hWs
  clear h hb0 hR0 hP1 hr t0 t1 t2
  subst hW0
  unfold tokV at HA
  generalize nthT ts i = tk at *
  obtain ⟨so, tx, nm, pl⟩ := tk
  simp only at HA HC
  go_enter Tryz.func38, Tryz.ntmps38
  go_wp2_with (first
    | (go_at_call 70; (with_reducible refine (HC.out _ _ NE.out G4.out B4.out).mono ?_); rintro e wb ⟨rfl, hg, hj⟩; have GB := hidden hg; have HJ := hidden hj; clear hg hj)
    | (go_at_call 37; (with_reducible refine (HS2.out _ G3.out.par).mono ?_); rintro e w4 ⟨rfl, hb⟩; have G4 := hidden (G3.out.later hb); have B4 := hidden (B3.out.below hb); clear hb)
    | (go_at_call 37; (with_reducible refine (HS1.out _ G2.out.par).mono ?_); rintro e w3 ⟨rfl, hb⟩; have G3 := hidden (G2.out.later hb); have B3 := hidden (B2.out.below hb); clear hb)
    | (go_at_call 37; (with_reducible refine (HS0.out _ G1.out.par).mono ?_); rintro e w2 ⟨rfl, hb⟩; have G2 := hidden (G1.out.later hb); have B2 := hidden (B1.out.below hb); clear hb)
    | (go_at_call 17; (with_reducible refine HA.out.mono ?_); rintro e w1 ⟨rfl, hb⟩; have NE := hidden hb.size; have hb2 := hb.trans (((Below.refl w1.heap.size w1).alloc (Nat.le_refl _) (.cells #[.int .u8 0, .string ⟨#[]⟩, .string ⟨#[]⟩, .slice none 0 0, .string ⟨#[]⟩, .int .i64 0, .int .i64 0, .string ⟨#[]⟩, .int .i64 0, .int .i64 0, .int .i64 pl] 59)).mono hb.size); have G1 := hidden (Goes.stay HPW.out hb2); have B1 : Hid (Blk 59 w1.heap.size (w1.alloc (.cells #[.int .u8 0, .string ⟨#[]⟩, .string ⟨#[]⟩, .slice none 0 0, .string ⟨#[]⟩, .int .i64 0, .int .i64 0, .string ⟨#[]⟩, .int .i64 0, .int .i64 0, .int .i64 pl] 59)) (itC 0 [] [] (.slice none 0 0) noPlc noPlc pl)) := blk_new _ _ _; clear hb hb2))
  exact ⟨rfl, rfl, ⟨GB.out.par, grown_of_below HB0.out GB.out.grown⟩, HJ.out⟩

set_option maxRecDepth 100000 in
set_option maxHeartbeats 4000000 in
theorem item_in_semi (P : Nat) (v : Value) (ts : List Tok) (i : Nat) (W : World) (h : Par P v ts i W) (hE : Ended ts) (hi : i < ts.length) (hl : ts.length ≤ 2000000) (t0 : (nthT ts i).text ≠ [97, 99, 116, 111, 114]) (t1 : (nthT ts i).text ≠ [101, 100, 103, 101]) (t2 : (nthT ts i).text = [105, 110]) (x : Itm) (j1 j2 : Nat) (hr : inR ts i = (some x, j1)) (hs : textR ts [59] j1 = (none, j2)) :
    Calls Tryz.prog 38 #[.pointer (some ⟨P, 0, none⟩)] W (ItemEnd P v ts W (itemR ts i)) := by
  have HM : itemR ts i = (none, j2) := by unfold itemR bodyR; rw [if_neg t0, if_neg t1, if_pos t2, hr, then_some, hs, then_none]
  rw [HM]
  show Calls _ _ _ _ (fun e w' => e = .panicked tokPanic ∧ Goes P v ts j2 W w' ∧ j2 < ts.length)
  clear HM
  have hb0 := (Below.refl W.heap.size W).alloc (Nat.le_refl _) (.cells #[.int .u8 0, .string ⟨#[]⟩, .string ⟨#[]⟩, .slice none 0 0, .string ⟨#[]⟩, .int .i64 0, .int .i64 0, .string ⟨#[]⟩, .int .i64 0, .int .i64 0, .int .i64 0] 59)
  have HBK : Hid (v.ownBlock ≠ some W.heap.size ∧ P ≠ W.heap.size) := h.blk (Nat.le_refl _)
  have HB0 := hidden hb0
  have hR0 := blk_new 59 W #[.int .u8 0, .string ⟨#[]⟩, .string ⟨#[]⟩, .slice none 0 0, .string ⟨#[]⟩, .int .i64 0, .int .i64 0, .string ⟨#[]⟩, .int .i64 0, .int .i64 0, .int .i64 0]
  have hP1 := h.below hb0
  have hWs : (W.alloc (.cells #[.int .u8 0, .string ⟨#[]⟩, .string ⟨#[]⟩, .slice none 0 0, .string ⟨#[]⟩, .int .i64 0, .int .i64 0, .string ⟨#[]⟩, .int .i64 0, .int .i64 0, .int .i64 0] 59)).heap.size = W.heap.size + 1 := by simp
  have ff := tok_f3
  obtain ⟨W0, hW0⟩ : ∃ W0, W0 = W.alloc (.cells #[.int .u8 0, .string ⟨#[]⟩, .string ⟨#[]⟩, .slice none 0 0, .string ⟨#[]⟩, .int .i64 0, .int .i64 0, .string ⟨#[]⟩, .int .i64 0, .int .i64 0, .int .i64 0] 59) := ⟨_, rfl⟩
  rw [← hW0] at hb0 hR0 hP1 hWs HB0
  have HR0 := hidden hR0
  have HA := hidden (ahead_at P v ts i W0 hP1 hi hl)
  have HPW := hidden hP1
  have HBW : Hid (∀ {n : Nat}, W0.heap.size ≤ n → v.ownBlock ≠ some n ∧ P ≠ n) := fun hn => hP1.blk hn
  have HC : Hid (∀ I w1, W0.heap.size ≤ I → Goes P v ts i W0 w1 → Blk 59 I w1 (itC 0 [] [] (.slice none 0 0) noPlc noPlc (nthT ts i).place) → Calls Tryz.prog 70 #[.pointer (some ⟨P, 0, none⟩), .pointer (some ⟨I, 0, none⟩)] w1 fun e w' => e = .returned (.tuple #[]) ∧ (∃ ns, Blk 59 I w' (itC x.kind x.name x.tag ns x.frm x.to x.place) ∧ Ints W0.heap.size w' ns x.nums) ∧ Goes P v ts j1 W0 w' ∧ j1 < ts.length) := fun I w1 q1 q2 q3 => by
    have := inB_any P v ts i W0 w1 I _ rfl q2 (fun hn => hP1.blk hn) q1 q3 hE hi hl t2
    rw [hr] at this
    exact this
  have HS0 : Hid (∀ w1, Par P v ts i w1 → Calls Tryz.prog 37 #[.pointer (some ⟨P, 0, none⟩), .string ⟨#[97, 99, 116, 111, 114]⟩] w1 fun e w' => e = .returned (.bool false) ∧ Below w1.heap.size w1 w') := fun w1 q => by
    have := says_at P v ts i w1 q hi hl [97, 99, 116, 111, 114]
    rw [decide_eq_false t0] at this
    exact this
  have HS1 : Hid (∀ w1, Par P v ts i w1 → Calls Tryz.prog 37 #[.pointer (some ⟨P, 0, none⟩), .string ⟨#[101, 100, 103, 101]⟩] w1 fun e w' => e = .returned (.bool false) ∧ Below w1.heap.size w1 w') := fun w1 q => by
    have := says_at P v ts i w1 q hi hl [101, 100, 103, 101]
    rw [decide_eq_false t1] at this
    exact this
  have HS2 : Hid (∀ w1, Par P v ts i w1 → Calls Tryz.prog 37 #[.pointer (some ⟨P, 0, none⟩), .string ⟨#[105, 110]⟩] w1 fun e w' => e = .returned (.bool true) ∧ Below w1.heap.size w1 w') := fun w1 q => by
    have := says_at P v ts i w1 q hi hl [105, 110]
    rw [decide_eq_true t2] at this
    exact this
  have HX : Hid (j1 < ts.length → j2 < ts.length ∧ ∀ w1, Par P v ts j1 w1 → Calls Tryz.prog 35 #[.pointer (some ⟨P, 0, none⟩), .string ⟨#[59]⟩] w1 fun e w' => e = .panicked tokPanic ∧ Goes P v ts j2 w1 w') := fun hj1 => ⟨(expect_none hs hj1 hl P v).1, (expect_none hs hj1 hl P v).2⟩
  have HWL : Hid (W.heap.size < W0.heap.size) := by show _ < _; rw [hWs]; omega
  clear hWs
  clear h hb0 hR0 hP1 hr hs t0 t1 t2
  subst hW0
  unfold tokV at HA
  generalize nthT ts i = tk at *
  obtain ⟨so, tx, nm, pl⟩ := tk
  simp only at HA HC
  go_enter Tryz.func38, Tryz.ntmps38
  go_wp2_with (first
    | (go_at_call 35; (with_reducible refine (HX2.out.2 _ GB.out.par).mono ?_); rintro e wc ⟨rfl, hg⟩; have GC := hidden (GB.out.trans hg); clear hg)
    | (go_at_call 70; (with_reducible refine (HC.out _ _ NE.out G4.out B4.out).mono ?_); rintro e wb ⟨rfl, ⟨ns, hbk, hin⟩, hg, hj⟩; obtain ⟨a, c, rfl⟩ := hin.shape; have GB := hidden hg; have BB := hidden hbk; have NB := hidden hin; have HX2 := hidden (HX.out hj); clear hg hj hbk hin)
    | (go_at_call 37; (with_reducible refine (HS2.out _ G3.out.par).mono ?_); rintro e w4 ⟨rfl, hb⟩; have G4 := hidden (G3.out.later hb); have B4 := hidden (B3.out.below hb); clear hb)
    | (go_at_call 37; (with_reducible refine (HS1.out _ G2.out.par).mono ?_); rintro e w3 ⟨rfl, hb⟩; have G3 := hidden (G2.out.later hb); have B3 := hidden (B2.out.below hb); clear hb)
    | (go_at_call 37; (with_reducible refine (HS0.out _ G1.out.par).mono ?_); rintro e w2 ⟨rfl, hb⟩; have G2 := hidden (G1.out.later hb); have B2 := hidden (B1.out.below hb); clear hb)
    | (go_at_call 17; (with_reducible refine HA.out.mono ?_); rintro e w1 ⟨rfl, hb⟩; have NE := hidden hb.size; have hb2 := hb.trans (((Below.refl w1.heap.size w1).alloc (Nat.le_refl _) (.cells #[.int .u8 0, .string ⟨#[]⟩, .string ⟨#[]⟩, .slice none 0 0, .string ⟨#[]⟩, .int .i64 0, .int .i64 0, .string ⟨#[]⟩, .int .i64 0, .int .i64 0, .int .i64 pl] 59)).mono hb.size); have G1 := hidden (Goes.stay HPW.out hb2); have B1 : Hid (Blk 59 w1.heap.size (w1.alloc (.cells #[.int .u8 0, .string ⟨#[]⟩, .string ⟨#[]⟩, .slice none 0 0, .string ⟨#[]⟩, .int .i64 0, .int .i64 0, .string ⟨#[]⟩, .int .i64 0, .int .i64 0, .int .i64 pl] 59)) (itC 0 [] [] (.slice none 0 0) noPlc noPlc pl)) := blk_new _ _ _; clear hb hb2))
  exact ⟨rfl, rfl, ⟨GC.out.par, grown_of_below HB0.out GC.out.grown⟩, HX2.out.1⟩

set_option maxRecDepth 100000 in
set_option maxHeartbeats 4000000 in
theorem item_in_all (P : Nat) (v : Value) (ts : List Tok) (i : Nat) (W : World) (h : Par P v ts i W) (hE : Ended ts) (hi : i < ts.length) (hl : ts.length ≤ 2000000) (t0 : (nthT ts i).text ≠ [97, 99, 116, 111, 114]) (t1 : (nthT ts i).text ≠ [101, 100, 103, 101]) (t2 : (nthT ts i).text = [105, 110]) (x : Itm) (j1 j2 : Nat) (hr : inR ts i = (some x, j1)) (hs : textR ts [59] j1 = (some (), j2)) :
    Calls Tryz.prog 38 #[.pointer (some ⟨P, 0, none⟩)] W (ItemEnd P v ts W (itemR ts i)) := by
  have HM : itemR ts i = (some x, j2) := by unfold itemR bodyR; rw [if_neg t0, if_neg t1, if_pos t2, hr, then_some, hs, then_some]
  rw [HM]
  show Calls _ _ _ _ (fun e w' => (∃ a c, e = .returned (.agg (itC x.kind x.name x.tag (.slice a x.nums.length c) x.frm x.to x.place)) ∧ Ints W.heap.size w' (.slice a x.nums.length c) x.nums) ∧ Goes P v ts j2 W w' ∧ j2 < ts.length)
  clear HM
  have hb0 := (Below.refl W.heap.size W).alloc (Nat.le_refl _) (.cells #[.int .u8 0, .string ⟨#[]⟩, .string ⟨#[]⟩, .slice none 0 0, .string ⟨#[]⟩, .int .i64 0, .int .i64 0, .string ⟨#[]⟩, .int .i64 0, .int .i64 0, .int .i64 0] 59)
  have HBK : Hid (v.ownBlock ≠ some W.heap.size ∧ P ≠ W.heap.size) := h.blk (Nat.le_refl _)
  have HB0 := hidden hb0
  have hR0 := blk_new 59 W #[.int .u8 0, .string ⟨#[]⟩, .string ⟨#[]⟩, .slice none 0 0, .string ⟨#[]⟩, .int .i64 0, .int .i64 0, .string ⟨#[]⟩, .int .i64 0, .int .i64 0, .int .i64 0]
  have hP1 := h.below hb0
  have hWs : (W.alloc (.cells #[.int .u8 0, .string ⟨#[]⟩, .string ⟨#[]⟩, .slice none 0 0, .string ⟨#[]⟩, .int .i64 0, .int .i64 0, .string ⟨#[]⟩, .int .i64 0, .int .i64 0, .int .i64 0] 59)).heap.size = W.heap.size + 1 := by simp
  have ff := tok_f3
  obtain ⟨W0, hW0⟩ : ∃ W0, W0 = W.alloc (.cells #[.int .u8 0, .string ⟨#[]⟩, .string ⟨#[]⟩, .slice none 0 0, .string ⟨#[]⟩, .int .i64 0, .int .i64 0, .string ⟨#[]⟩, .int .i64 0, .int .i64 0, .int .i64 0] 59) := ⟨_, rfl⟩
  rw [← hW0] at hb0 hR0 hP1 hWs HB0
  have HR0 := hidden hR0
  have HA := hidden (ahead_at P v ts i W0 hP1 hi hl)
  have HPW := hidden hP1
  have HBW : Hid (∀ {n : Nat}, W0.heap.size ≤ n → v.ownBlock ≠ some n ∧ P ≠ n) := fun hn => hP1.blk hn
  have HC : Hid (∀ I w1, W0.heap.size ≤ I → Goes P v ts i W0 w1 → Blk 59 I w1 (itC 0 [] [] (.slice none 0 0) noPlc noPlc (nthT ts i).place) → Calls Tryz.prog 70 #[.pointer (some ⟨P, 0, none⟩), .pointer (some ⟨I, 0, none⟩)] w1 fun e w' => e = .returned (.tuple #[]) ∧ (∃ ns, Blk 59 I w' (itC x.kind x.name x.tag ns x.frm x.to x.place) ∧ Ints W0.heap.size w' ns x.nums) ∧ Goes P v ts j1 W0 w' ∧ j1 < ts.length) := fun I w1 q1 q2 q3 => by
    have := inB_any P v ts i W0 w1 I _ rfl q2 (fun hn => hP1.blk hn) q1 q3 hE hi hl t2
    rw [hr] at this
    exact this
  have HS0 : Hid (∀ w1, Par P v ts i w1 → Calls Tryz.prog 37 #[.pointer (some ⟨P, 0, none⟩), .string ⟨#[97, 99, 116, 111, 114]⟩] w1 fun e w' => e = .returned (.bool false) ∧ Below w1.heap.size w1 w') := fun w1 q => by
    have := says_at P v ts i w1 q hi hl [97, 99, 116, 111, 114]
    rw [decide_eq_false t0] at this
    exact this
  have HS1 : Hid (∀ w1, Par P v ts i w1 → Calls Tryz.prog 37 #[.pointer (some ⟨P, 0, none⟩), .string ⟨#[101, 100, 103, 101]⟩] w1 fun e w' => e = .returned (.bool false) ∧ Below w1.heap.size w1 w') := fun w1 q => by
    have := says_at P v ts i w1 q hi hl [101, 100, 103, 101]
    rw [decide_eq_false t1] at this
    exact this
  have HS2 : Hid (∀ w1, Par P v ts i w1 → Calls Tryz.prog 37 #[.pointer (some ⟨P, 0, none⟩), .string ⟨#[105, 110]⟩] w1 fun e w' => e = .returned (.bool true) ∧ Below w1.heap.size w1 w') := fun w1 q => by
    have := says_at P v ts i w1 q hi hl [105, 110]
    rw [decide_eq_true t2] at this
    exact this
  have HX : Hid (j1 < ts.length → j2 < ts.length ∧ ∀ w1, Par P v ts j1 w1 → Calls Tryz.prog 35 #[.pointer (some ⟨P, 0, none⟩), .string ⟨#[59]⟩] w1 fun e w' => e = .returned (.tuple #[]) ∧ Goes P v ts j2 w1 w') := fun hj1 => ⟨(expect_some hs hE hj1 hl (by decide) P v).1, (expect_some hs hE hj1 hl (by decide) P v).2⟩
  have HWL : Hid (W.heap.size < W0.heap.size) := by show _ < _; rw [hWs]; omega
  clear hWs
  clear h hb0 hR0 hP1 hr hs t0 t1 t2
  subst hW0
  unfold tokV at HA
  generalize nthT ts i = tk at *
  obtain ⟨so, tx, nm, pl⟩ := tk
  simp only at HA HC
  go_enter Tryz.func38, Tryz.ntmps38
  go_wp2_with (first
    | (go_at_call 35; (with_reducible refine (HX2.out.2 _ GB.out.par).mono ?_); rintro e wc ⟨rfl, hg⟩; have GC := hidden (GB.out.trans hg); have BC := BB.out.grown hg.grown (fun e => (HBW.out NE.out).2 (Option.some.inj e).symm); have NC := hidden (NB.out.grown hg.grown HPW.out.lt); have RC := HR0.out.grown GC.out.grown (fun e => HBK.out.2 (Option.some.inj e).symm); have c0 : wc.cell? ⟨w1.heap.size, 0, none⟩ = some (.int .u8 x.kind) := BC.cell (k := 0) rfl; have r0 : wc.cell? ⟨W.heap.size, 0, none⟩ = some (.int .u8 0) := RC.cell (k := 0) rfl; have f0 := RC.frozen 0; have c1 : wc.cell? ⟨w1.heap.size, 1, none⟩ = some (.string (str x.name)) := BC.cell (k := 1) rfl; have r1 : wc.cell? ⟨W.heap.size, 1, none⟩ = some (.string ⟨#[]⟩) := RC.cell (k := 1) rfl; have f1 := RC.frozen 1; have c2 : wc.cell? ⟨w1.heap.size, 2, none⟩ = some (.string (str x.tag)) := BC.cell (k := 2) rfl; have r2 : wc.cell? ⟨W.heap.size, 2, none⟩ = some (.string ⟨#[]⟩) := RC.cell (k := 2) rfl; have f2 := RC.frozen 2; have c3 : wc.cell? ⟨w1.heap.size, 3, none⟩ = some (.slice a x.nums.length c) := BC.cell (k := 3) rfl; have r3 : wc.cell? ⟨W.heap.size, 3, none⟩ = some (.slice none 0 0) := RC.cell (k := 3) rfl; have f3 := RC.frozen 3; have c4 : wc.cell? ⟨w1.heap.size, 4, none⟩ = some (.string (str x.frm.name)) := BC.cell (k := 4) rfl; have r4 : wc.cell? ⟨W.heap.size, 4, none⟩ = some (.string ⟨#[]⟩) := RC.cell (k := 4) rfl; have f4 := RC.frozen 4; have c5 : wc.cell? ⟨w1.heap.size, 5, none⟩ = some (.int .i64 x.frm.port) := BC.cell (k := 5) rfl; have r5 : wc.cell? ⟨W.heap.size, 5, none⟩ = some (.int .i64 0) := RC.cell (k := 5) rfl; have f5 := RC.frozen 5; have c6 : wc.cell? ⟨w1.heap.size, 6, none⟩ = some (.int .i64 x.frm.place) := BC.cell (k := 6) rfl; have r6 : wc.cell? ⟨W.heap.size, 6, none⟩ = some (.int .i64 0) := RC.cell (k := 6) rfl; have f6 := RC.frozen 6; have c7 : wc.cell? ⟨w1.heap.size, 7, none⟩ = some (.string (str x.to.name)) := BC.cell (k := 7) rfl; have r7 : wc.cell? ⟨W.heap.size, 7, none⟩ = some (.string ⟨#[]⟩) := RC.cell (k := 7) rfl; have f7 := RC.frozen 7; have c8 : wc.cell? ⟨w1.heap.size, 8, none⟩ = some (.int .i64 x.to.port) := BC.cell (k := 8) rfl; have r8 : wc.cell? ⟨W.heap.size, 8, none⟩ = some (.int .i64 0) := RC.cell (k := 8) rfl; have f8 := RC.frozen 8; have c9 : wc.cell? ⟨w1.heap.size, 9, none⟩ = some (.int .i64 x.to.place) := BC.cell (k := 9) rfl; have r9 : wc.cell? ⟨W.heap.size, 9, none⟩ = some (.int .i64 0) := RC.cell (k := 9) rfl; have f9 := RC.frozen 9; have c10 : wc.cell? ⟨w1.heap.size, 10, none⟩ = some (.int .i64 x.place) := BC.cell (k := 10) rfl; have r10 : wc.cell? ⟨W.heap.size, 10, none⟩ = some (.int .i64 0) := RC.cell (k := 10) rfl; have f10 := RC.frozen 10; clear BC RC; clear hg)
    | (go_at_call 70; (with_reducible refine (HC.out _ _ NE.out G4.out B4.out).mono ?_); rintro e wb ⟨rfl, ⟨ns, hbk, hin⟩, hg, hj⟩; obtain ⟨a, c, rfl⟩ := hin.shape; have GB := hidden hg; have BB := hidden hbk; have NB := hidden hin; have HX2 := hidden (HX.out hj); clear hg hj hbk hin)
    | (go_at_call 37; (with_reducible refine (HS2.out _ G3.out.par).mono ?_); rintro e w4 ⟨rfl, hb⟩; have G4 := hidden (G3.out.later hb); have B4 := hidden (B3.out.below hb); clear hb)
    | (go_at_call 37; (with_reducible refine (HS1.out _ G2.out.par).mono ?_); rintro e w3 ⟨rfl, hb⟩; have G3 := hidden (G2.out.later hb); have B3 := hidden (B2.out.below hb); clear hb)
    | (go_at_call 37; (with_reducible refine (HS0.out _ G1.out.par).mono ?_); rintro e w2 ⟨rfl, hb⟩; have G2 := hidden (G1.out.later hb); have B2 := hidden (B1.out.below hb); clear hb)
    | (go_at_call 17; (with_reducible refine HA.out.mono ?_); rintro e w1 ⟨rfl, hb⟩; have NE := hidden hb.size; have hb2 := hb.trans (((Below.refl w1.heap.size w1).alloc (Nat.le_refl _) (.cells #[.int .u8 0, .string ⟨#[]⟩, .string ⟨#[]⟩, .slice none 0 0, .string ⟨#[]⟩, .int .i64 0, .int .i64 0, .string ⟨#[]⟩, .int .i64 0, .int .i64 0, .int .i64 pl] 59)).mono hb.size); have G1 := hidden (Goes.stay HPW.out hb2); have B1 : Hid (Blk 59 w1.heap.size (w1.alloc (.cells #[.int .u8 0, .string ⟨#[]⟩, .string ⟨#[]⟩, .slice none 0 0, .string ⟨#[]⟩, .int .i64 0, .int .i64 0, .string ⟨#[]⟩, .int .i64 0, .int .i64 0, .int .i64 pl] 59)) (itC 0 [] [] (.slice none 0 0) noPlc noPlc pl)) := blk_new _ _ _; clear hb hb2))
  exact bodyPost_ret (v := .agg (itC x.kind x.name x.tag (.slice a x.nums.length c) x.frm x.to x.place)) (by simp [results, Tryz.results38, go_sem, r0, r1, r2, r3, r4, r5, r6, r7, r8, r9, r10, itC]) rfl ⟨⟨a, c, rfl, ((((((((((((NC.out.put HWL.out).put HWL.out).put HWL.out).put HWL.out).put HWL.out).put HWL.out).put HWL.out).put HWL.out).put HWL.out).put HWL.out).put HWL.out)).mono (Nat.le_of_lt HWL.out)⟩, ((((((((((((show Goes P v ts j2 W wc from ⟨GC.out.par, grown_of_below HB0.out GC.out.grown⟩).put HBK.out (Nat.le_refl _) _).put HBK.out (Nat.le_refl _) _).put HBK.out (Nat.le_refl _) _).put HBK.out (Nat.le_refl _) _).put HBK.out (Nat.le_refl _) _).put HBK.out (Nat.le_refl _) _).put HBK.out (Nat.le_refl _) _).put HBK.out (Nat.le_refl _) _).put HBK.out (Nat.le_refl _) _).put HBK.out (Nat.le_refl _) _).put HBK.out (Nat.le_refl _) _), HX2.out.1⟩

set_option maxRecDepth 100000 in
set_option maxHeartbeats 4000000 in
theorem item_out_body (P : Nat) (v : Value) (ts : List Tok) (i : Nat) (W : World) (h : Par P v ts i W) (hE : Ended ts) (hi : i < ts.length) (hl : ts.length ≤ 2000000) (t0 : (nthT ts i).text ≠ [97, 99, 116, 111, 114]) (t1 : (nthT ts i).text ≠ [101, 100, 103, 101]) (t2 : (nthT ts i).text ≠ [105, 110]) (j1 : Nat) (hr : outR ts i = (none, j1)) :
    Calls Tryz.prog 38 #[.pointer (some ⟨P, 0, none⟩)] W (ItemEnd P v ts W (itemR ts i)) := by
  have HM : itemR ts i = (none, j1) := by unfold itemR bodyR; rw [if_neg t0, if_neg t1, if_neg t2, hr, then_none]
  rw [HM]
  show Calls _ _ _ _ (fun e w' => e = .panicked tokPanic ∧ Goes P v ts j1 W w' ∧ j1 < ts.length)
  clear HM
  have hb0 := (Below.refl W.heap.size W).alloc (Nat.le_refl _) (.cells #[.int .u8 0, .string ⟨#[]⟩, .string ⟨#[]⟩, .slice none 0 0, .string ⟨#[]⟩, .int .i64 0, .int .i64 0, .string ⟨#[]⟩, .int .i64 0, .int .i64 0, .int .i64 0] 59)
  have HBK : Hid (v.ownBlock ≠ some W.heap.size ∧ P ≠ W.heap.size) := h.blk (Nat.le_refl _)
  have HB0 := hidden hb0
  have hR0 := blk_new 59 W #[.int .u8 0, .string ⟨#[]⟩, .string ⟨#[]⟩, .slice none 0 0, .string ⟨#[]⟩, .int .i64 0, .int .i64 0, .string ⟨#[]⟩, .int .i64 0, .int .i64 0, .int .i64 0]
  have hP1 := h.below hb0
  have hWs : (W.alloc (.cells #[.int .u8 0, .string ⟨#[]⟩, .string ⟨#[]⟩, .slice none 0 0, .string ⟨#[]⟩, .int .i64 0, .int .i64 0, .string ⟨#[]⟩, .int .i64 0, .int .i64 0, .int .i64 0] 59)).heap.size = W.heap.size + 1 := by simp
  have ff := tok_f3
  obtain ⟨W0, hW0⟩ : ∃ W0, W0 = W.alloc (.cells #[.int .u8 0, .string ⟨#[]⟩, .string ⟨#[]⟩, .slice none 0 0, .string ⟨#[]⟩, .int .i64 0, .int .i64 0, .string ⟨#[]⟩, .int .i64 0, .int .i64 0, .int .i64 0] 59) := ⟨_, rfl⟩
  rw [← hW0] at hb0 hR0 hP1 hWs HB0
  have HR0 := hidden hR0
  have HA := hidden (ahead_at P v ts i W0 hP1 hi hl)
  have HPW := hidden hP1
  have HBW : Hid (∀ {n : Nat}, W0.heap.size ≤ n → v.ownBlock ≠ some n ∧ P ≠ n) := fun hn => hP1.blk hn
  have HC : Hid (∀ I w1, W0.heap.size ≤ I → Goes P v ts i W0 w1 → Blk 59 I w1 (itC 0 [] [] (.slice none 0 0) noPlc noPlc (nthT ts i).place) → Calls Tryz.prog 71 #[.pointer (some ⟨P, 0, none⟩), .pointer (some ⟨I, 0, none⟩)] w1 fun e w' => e = .panicked tokPanic ∧ Goes P v ts j1 W0 w' ∧ j1 < ts.length) := fun I w1 q1 q2 q3 => by
    have := out_any P v ts i W0 w1 I _ rfl q2 (fun hn => hP1.blk hn) q1 q3 hE hi hl
    rw [hr] at this
    exact this
  have HS0 : Hid (∀ w1, Par P v ts i w1 → Calls Tryz.prog 37 #[.pointer (some ⟨P, 0, none⟩), .string ⟨#[97, 99, 116, 111, 114]⟩] w1 fun e w' => e = .returned (.bool false) ∧ Below w1.heap.size w1 w') := fun w1 q => by
    have := says_at P v ts i w1 q hi hl [97, 99, 116, 111, 114]
    rw [decide_eq_false t0] at this
    exact this
  have HS1 : Hid (∀ w1, Par P v ts i w1 → Calls Tryz.prog 37 #[.pointer (some ⟨P, 0, none⟩), .string ⟨#[101, 100, 103, 101]⟩] w1 fun e w' => e = .returned (.bool false) ∧ Below w1.heap.size w1 w') := fun w1 q => by
    have := says_at P v ts i w1 q hi hl [101, 100, 103, 101]
    rw [decide_eq_false t1] at this
    exact this
  have HS2 : Hid (∀ w1, Par P v ts i w1 → Calls Tryz.prog 37 #[.pointer (some ⟨P, 0, none⟩), .string ⟨#[105, 110]⟩] w1 fun e w' => e = .returned (.bool false) ∧ Below w1.heap.size w1 w') := fun w1 q => by
    have := says_at P v ts i w1 q hi hl [105, 110]
    rw [decide_eq_false t2] at this
    exact this
  have HWL : Hid (W.heap.size < W0.heap.size) := by show _ < _; rw [hWs]; omega
  clear hWs
  clear h hb0 hR0 hP1 hr t0 t1 t2
  subst hW0
  unfold tokV at HA
  generalize nthT ts i = tk at *
  obtain ⟨so, tx, nm, pl⟩ := tk
  simp only at HA HC
  go_enter Tryz.func38, Tryz.ntmps38
  go_wp2_with (first
    | (go_at_call 71; (with_reducible refine (HC.out _ _ NE.out G4.out B4.out).mono ?_); rintro e wb ⟨rfl, hg, hj⟩; have GB := hidden hg; have HJ := hidden hj; clear hg hj)
    | (go_at_call 37; (with_reducible refine (HS2.out _ G3.out.par).mono ?_); rintro e w4 ⟨rfl, hb⟩; have G4 := hidden (G3.out.later hb); have B4 := hidden (B3.out.below hb); clear hb)
    | (go_at_call 37; (with_reducible refine (HS1.out _ G2.out.par).mono ?_); rintro e w3 ⟨rfl, hb⟩; have G3 := hidden (G2.out.later hb); have B3 := hidden (B2.out.below hb); clear hb)
    | (go_at_call 37; (with_reducible refine (HS0.out _ G1.out.par).mono ?_); rintro e w2 ⟨rfl, hb⟩; have G2 := hidden (G1.out.later hb); have B2 := hidden (B1.out.below hb); clear hb)
    | (go_at_call 17; (with_reducible refine HA.out.mono ?_); rintro e w1 ⟨rfl, hb⟩; have NE := hidden hb.size; have hb2 := hb.trans (((Below.refl w1.heap.size w1).alloc (Nat.le_refl _) (.cells #[.int .u8 0, .string ⟨#[]⟩, .string ⟨#[]⟩, .slice none 0 0, .string ⟨#[]⟩, .int .i64 0, .int .i64 0, .string ⟨#[]⟩, .int .i64 0, .int .i64 0, .int .i64 pl] 59)).mono hb.size); have G1 := hidden (Goes.stay HPW.out hb2); have B1 : Hid (Blk 59 w1.heap.size (w1.alloc (.cells #[.int .u8 0, .string ⟨#[]⟩, .string ⟨#[]⟩, .slice none 0 0, .string ⟨#[]⟩, .int .i64 0, .int .i64 0, .string ⟨#[]⟩, .int .i64 0, .int .i64 0, .int .i64 pl] 59)) (itC 0 [] [] (.slice none 0 0) noPlc noPlc pl)) := blk_new _ _ _; clear hb hb2))
  exact ⟨rfl, rfl, ⟨GB.out.par, grown_of_below HB0.out GB.out.grown⟩, HJ.out⟩

set_option maxRecDepth 100000 in
set_option maxHeartbeats 4000000 in
theorem item_out_semi (P : Nat) (v : Value) (ts : List Tok) (i : Nat) (W : World) (h : Par P v ts i W) (hE : Ended ts) (hi : i < ts.length) (hl : ts.length ≤ 2000000) (t0 : (nthT ts i).text ≠ [97, 99, 116, 111, 114]) (t1 : (nthT ts i).text ≠ [101, 100, 103, 101]) (t2 : (nthT ts i).text ≠ [105, 110]) (x : Itm) (j1 j2 : Nat) (hr : outR ts i = (some x, j1)) (hs : textR ts [59] j1 = (none, j2)) :
    Calls Tryz.prog 38 #[.pointer (some ⟨P, 0, none⟩)] W (ItemEnd P v ts W (itemR ts i)) := by
  have HM : itemR ts i = (none, j2) := by unfold itemR bodyR; rw [if_neg t0, if_neg t1, if_neg t2, hr, then_some, hs, then_none]
  rw [HM]
  show Calls _ _ _ _ (fun e w' => e = .panicked tokPanic ∧ Goes P v ts j2 W w' ∧ j2 < ts.length)
  clear HM
  have hb0 := (Below.refl W.heap.size W).alloc (Nat.le_refl _) (.cells #[.int .u8 0, .string ⟨#[]⟩, .string ⟨#[]⟩, .slice none 0 0, .string ⟨#[]⟩, .int .i64 0, .int .i64 0, .string ⟨#[]⟩, .int .i64 0, .int .i64 0, .int .i64 0] 59)
  have HBK : Hid (v.ownBlock ≠ some W.heap.size ∧ P ≠ W.heap.size) := h.blk (Nat.le_refl _)
  have HB0 := hidden hb0
  have hR0 := blk_new 59 W #[.int .u8 0, .string ⟨#[]⟩, .string ⟨#[]⟩, .slice none 0 0, .string ⟨#[]⟩, .int .i64 0, .int .i64 0, .string ⟨#[]⟩, .int .i64 0, .int .i64 0, .int .i64 0]
  have hP1 := h.below hb0
  have hWs : (W.alloc (.cells #[.int .u8 0, .string ⟨#[]⟩, .string ⟨#[]⟩, .slice none 0 0, .string ⟨#[]⟩, .int .i64 0, .int .i64 0, .string ⟨#[]⟩, .int .i64 0, .int .i64 0, .int .i64 0] 59)).heap.size = W.heap.size + 1 := by simp
  have ff := tok_f3
  obtain ⟨W0, hW0⟩ : ∃ W0, W0 = W.alloc (.cells #[.int .u8 0, .string ⟨#[]⟩, .string ⟨#[]⟩, .slice none 0 0, .string ⟨#[]⟩, .int .i64 0, .int .i64 0, .string ⟨#[]⟩, .int .i64 0, .int .i64 0, .int .i64 0] 59) := ⟨_, rfl⟩
  rw [← hW0] at hb0 hR0 hP1 hWs HB0
  have HR0 := hidden hR0
  have HA := hidden (ahead_at P v ts i W0 hP1 hi hl)
  have HPW := hidden hP1
  have HBW : Hid (∀ {n : Nat}, W0.heap.size ≤ n → v.ownBlock ≠ some n ∧ P ≠ n) := fun hn => hP1.blk hn
  have HC : Hid (∀ I w1, W0.heap.size ≤ I → Goes P v ts i W0 w1 → Blk 59 I w1 (itC 0 [] [] (.slice none 0 0) noPlc noPlc (nthT ts i).place) → Calls Tryz.prog 71 #[.pointer (some ⟨P, 0, none⟩), .pointer (some ⟨I, 0, none⟩)] w1 fun e w' => e = .returned (.tuple #[]) ∧ (∃ ns, Blk 59 I w' (itC x.kind x.name x.tag ns x.frm x.to x.place) ∧ Ints W0.heap.size w' ns x.nums) ∧ Goes P v ts j1 W0 w' ∧ j1 < ts.length) := fun I w1 q1 q2 q3 => by
    have := out_any P v ts i W0 w1 I _ rfl q2 (fun hn => hP1.blk hn) q1 q3 hE hi hl
    rw [hr] at this
    exact this
  have HS0 : Hid (∀ w1, Par P v ts i w1 → Calls Tryz.prog 37 #[.pointer (some ⟨P, 0, none⟩), .string ⟨#[97, 99, 116, 111, 114]⟩] w1 fun e w' => e = .returned (.bool false) ∧ Below w1.heap.size w1 w') := fun w1 q => by
    have := says_at P v ts i w1 q hi hl [97, 99, 116, 111, 114]
    rw [decide_eq_false t0] at this
    exact this
  have HS1 : Hid (∀ w1, Par P v ts i w1 → Calls Tryz.prog 37 #[.pointer (some ⟨P, 0, none⟩), .string ⟨#[101, 100, 103, 101]⟩] w1 fun e w' => e = .returned (.bool false) ∧ Below w1.heap.size w1 w') := fun w1 q => by
    have := says_at P v ts i w1 q hi hl [101, 100, 103, 101]
    rw [decide_eq_false t1] at this
    exact this
  have HS2 : Hid (∀ w1, Par P v ts i w1 → Calls Tryz.prog 37 #[.pointer (some ⟨P, 0, none⟩), .string ⟨#[105, 110]⟩] w1 fun e w' => e = .returned (.bool false) ∧ Below w1.heap.size w1 w') := fun w1 q => by
    have := says_at P v ts i w1 q hi hl [105, 110]
    rw [decide_eq_false t2] at this
    exact this
  have HX : Hid (j1 < ts.length → j2 < ts.length ∧ ∀ w1, Par P v ts j1 w1 → Calls Tryz.prog 35 #[.pointer (some ⟨P, 0, none⟩), .string ⟨#[59]⟩] w1 fun e w' => e = .panicked tokPanic ∧ Goes P v ts j2 w1 w') := fun hj1 => ⟨(expect_none hs hj1 hl P v).1, (expect_none hs hj1 hl P v).2⟩
  have HWL : Hid (W.heap.size < W0.heap.size) := by show _ < _; rw [hWs]; omega
  clear hWs
  clear h hb0 hR0 hP1 hr hs t0 t1 t2
  subst hW0
  unfold tokV at HA
  generalize nthT ts i = tk at *
  obtain ⟨so, tx, nm, pl⟩ := tk
  simp only at HA HC
  go_enter Tryz.func38, Tryz.ntmps38
  go_wp2_with (first
    | (go_at_call 35; (with_reducible refine (HX2.out.2 _ GB.out.par).mono ?_); rintro e wc ⟨rfl, hg⟩; have GC := hidden (GB.out.trans hg); clear hg)
    | (go_at_call 71; (with_reducible refine (HC.out _ _ NE.out G4.out B4.out).mono ?_); rintro e wb ⟨rfl, ⟨ns, hbk, hin⟩, hg, hj⟩; obtain ⟨a, c, rfl⟩ := hin.shape; have GB := hidden hg; have BB := hidden hbk; have NB := hidden hin; have HX2 := hidden (HX.out hj); clear hg hj hbk hin)
    | (go_at_call 37; (with_reducible refine (HS2.out _ G3.out.par).mono ?_); rintro e w4 ⟨rfl, hb⟩; have G4 := hidden (G3.out.later hb); have B4 := hidden (B3.out.below hb); clear hb)
    | (go_at_call 37; (with_reducible refine (HS1.out _ G2.out.par).mono ?_); rintro e w3 ⟨rfl, hb⟩; have G3 := hidden (G2.out.later hb); have B3 := hidden (B2.out.below hb); clear hb)
    | (go_at_call 37; (with_reducible refine (HS0.out _ G1.out.par).mono ?_); rintro e w2 ⟨rfl, hb⟩; have G2 := hidden (G1.out.later hb); have B2 := hidden (B1.out.below hb); clear hb)
    | (go_at_call 17; (with_reducible refine HA.out.mono ?_); rintro e w1 ⟨rfl, hb⟩; have NE := hidden hb.size; have hb2 := hb.trans (((Below.refl w1.heap.size w1).alloc (Nat.le_refl _) (.cells #[.int .u8 0, .string ⟨#[]⟩, .string ⟨#[]⟩, .slice none 0 0, .string ⟨#[]⟩, .int .i64 0, .int .i64 0, .string ⟨#[]⟩, .int .i64 0, .int .i64 0, .int .i64 pl] 59)).mono hb.size); have G1 := hidden (Goes.stay HPW.out hb2); have B1 : Hid (Blk 59 w1.heap.size (w1.alloc (.cells #[.int .u8 0, .string ⟨#[]⟩, .string ⟨#[]⟩, .slice none 0 0, .string ⟨#[]⟩, .int .i64 0, .int .i64 0, .string ⟨#[]⟩, .int .i64 0, .int .i64 0, .int .i64 pl] 59)) (itC 0 [] [] (.slice none 0 0) noPlc noPlc pl)) := blk_new _ _ _; clear hb hb2))
  exact ⟨rfl, rfl, ⟨GC.out.par, grown_of_below HB0.out GC.out.grown⟩, HX2.out.1⟩

set_option maxRecDepth 100000 in
set_option maxHeartbeats 4000000 in
theorem item_out_all (P : Nat) (v : Value) (ts : List Tok) (i : Nat) (W : World) (h : Par P v ts i W) (hE : Ended ts) (hi : i < ts.length) (hl : ts.length ≤ 2000000) (t0 : (nthT ts i).text ≠ [97, 99, 116, 111, 114]) (t1 : (nthT ts i).text ≠ [101, 100, 103, 101]) (t2 : (nthT ts i).text ≠ [105, 110]) (x : Itm) (j1 j2 : Nat) (hr : outR ts i = (some x, j1)) (hs : textR ts [59] j1 = (some (), j2)) :
    Calls Tryz.prog 38 #[.pointer (some ⟨P, 0, none⟩)] W (ItemEnd P v ts W (itemR ts i)) := by
  have HM : itemR ts i = (some x, j2) := by unfold itemR bodyR; rw [if_neg t0, if_neg t1, if_neg t2, hr, then_some, hs, then_some]
  rw [HM]
  show Calls _ _ _ _ (fun e w' => (∃ a c, e = .returned (.agg (itC x.kind x.name x.tag (.slice a x.nums.length c) x.frm x.to x.place)) ∧ Ints W.heap.size w' (.slice a x.nums.length c) x.nums) ∧ Goes P v ts j2 W w' ∧ j2 < ts.length)
  clear HM
  have hb0 := (Below.refl W.heap.size W).alloc (Nat.le_refl _) (.cells #[.int .u8 0, .string ⟨#[]⟩, .string ⟨#[]⟩, .slice none 0 0, .string ⟨#[]⟩, .int .i64 0, .int .i64 0, .string ⟨#[]⟩, .int .i64 0, .int .i64 0, .int .i64 0] 59)
  have HBK : Hid (v.ownBlock ≠ some W.heap.size ∧ P ≠ W.heap.size) := h.blk (Nat.le_refl _)
  have HB0 := hidden hb0
  have hR0 := blk_new 59 W #[.int .u8 0, .string ⟨#[]⟩, .string ⟨#[]⟩, .slice none 0 0, .string ⟨#[]⟩, .int .i64 0, .int .i64 0, .string ⟨#[]⟩, .int .i64 0, .int .i64 0, .int .i64 0]
  have hP1 := h.below hb0
  have hWs : (W.alloc (.cells #[.int .u8 0, .string ⟨#[]⟩, .string ⟨#[]⟩, .slice none 0 0, .string ⟨#[]⟩, .int .i64 0, .int .i64 0, .string ⟨#[]⟩, .int .i64 0, .int .i64 0, .int .i64 0] 59)).heap.size = W.heap.size + 1 := by simp
  have ff := tok_f3
  obtain ⟨W0, hW0⟩ : ∃ W0, W0 = W.alloc (.cells #[.int .u8 0, .string ⟨#[]⟩, .string ⟨#[]⟩, .slice none 0 0, .string ⟨#[]⟩, .int .i64 0, .int .i64 0, .string ⟨#[]⟩, .int .i64 0, .int .i64 0, .int .i64 0] 59) := ⟨_, rfl⟩
  rw [← hW0] at hb0 hR0 hP1 hWs HB0
  have HR0 := hidden hR0
  have HA := hidden (ahead_at P v ts i W0 hP1 hi hl)
  have HPW := hidden hP1
  have HBW : Hid (∀ {n : Nat}, W0.heap.size ≤ n → v.ownBlock ≠ some n ∧ P ≠ n) := fun hn => hP1.blk hn
  have HC : Hid (∀ I w1, W0.heap.size ≤ I → Goes P v ts i W0 w1 → Blk 59 I w1 (itC 0 [] [] (.slice none 0 0) noPlc noPlc (nthT ts i).place) → Calls Tryz.prog 71 #[.pointer (some ⟨P, 0, none⟩), .pointer (some ⟨I, 0, none⟩)] w1 fun e w' => e = .returned (.tuple #[]) ∧ (∃ ns, Blk 59 I w' (itC x.kind x.name x.tag ns x.frm x.to x.place) ∧ Ints W0.heap.size w' ns x.nums) ∧ Goes P v ts j1 W0 w' ∧ j1 < ts.length) := fun I w1 q1 q2 q3 => by
    have := out_any P v ts i W0 w1 I _ rfl q2 (fun hn => hP1.blk hn) q1 q3 hE hi hl
    rw [hr] at this
    exact this
  have HS0 : Hid (∀ w1, Par P v ts i w1 → Calls Tryz.prog 37 #[.pointer (some ⟨P, 0, none⟩), .string ⟨#[97, 99, 116, 111, 114]⟩] w1 fun e w' => e = .returned (.bool false) ∧ Below w1.heap.size w1 w') := fun w1 q => by
    have := says_at P v ts i w1 q hi hl [97, 99, 116, 111, 114]
    rw [decide_eq_false t0] at this
    exact this
  have HS1 : Hid (∀ w1, Par P v ts i w1 → Calls Tryz.prog 37 #[.pointer (some ⟨P, 0, none⟩), .string ⟨#[101, 100, 103, 101]⟩] w1 fun e w' => e = .returned (.bool false) ∧ Below w1.heap.size w1 w') := fun w1 q => by
    have := says_at P v ts i w1 q hi hl [101, 100, 103, 101]
    rw [decide_eq_false t1] at this
    exact this
  have HS2 : Hid (∀ w1, Par P v ts i w1 → Calls Tryz.prog 37 #[.pointer (some ⟨P, 0, none⟩), .string ⟨#[105, 110]⟩] w1 fun e w' => e = .returned (.bool false) ∧ Below w1.heap.size w1 w') := fun w1 q => by
    have := says_at P v ts i w1 q hi hl [105, 110]
    rw [decide_eq_false t2] at this
    exact this
  have HX : Hid (j1 < ts.length → j2 < ts.length ∧ ∀ w1, Par P v ts j1 w1 → Calls Tryz.prog 35 #[.pointer (some ⟨P, 0, none⟩), .string ⟨#[59]⟩] w1 fun e w' => e = .returned (.tuple #[]) ∧ Goes P v ts j2 w1 w') := fun hj1 => ⟨(expect_some hs hE hj1 hl (by decide) P v).1, (expect_some hs hE hj1 hl (by decide) P v).2⟩
  have HWL : Hid (W.heap.size < W0.heap.size) := by show _ < _; rw [hWs]; omega
  clear hWs
  clear h hb0 hR0 hP1 hr hs t0 t1 t2
  subst hW0
  unfold tokV at HA
  generalize nthT ts i = tk at *
  obtain ⟨so, tx, nm, pl⟩ := tk
  simp only at HA HC
  go_enter Tryz.func38, Tryz.ntmps38
  go_wp2_with (first
    | (go_at_call 35; (with_reducible refine (HX2.out.2 _ GB.out.par).mono ?_); rintro e wc ⟨rfl, hg⟩; have GC := hidden (GB.out.trans hg); have BC := BB.out.grown hg.grown (fun e => (HBW.out NE.out).2 (Option.some.inj e).symm); have NC := hidden (NB.out.grown hg.grown HPW.out.lt); have RC := HR0.out.grown GC.out.grown (fun e => HBK.out.2 (Option.some.inj e).symm); have c0 : wc.cell? ⟨w1.heap.size, 0, none⟩ = some (.int .u8 x.kind) := BC.cell (k := 0) rfl; have r0 : wc.cell? ⟨W.heap.size, 0, none⟩ = some (.int .u8 0) := RC.cell (k := 0) rfl; have f0 := RC.frozen 0; have c1 : wc.cell? ⟨w1.heap.size, 1, none⟩ = some (.string (str x.name)) := BC.cell (k := 1) rfl; have r1 : wc.cell? ⟨W.heap.size, 1, none⟩ = some (.string ⟨#[]⟩) := RC.cell (k := 1) rfl; have f1 := RC.frozen 1; have c2 : wc.cell? ⟨w1.heap.size, 2, none⟩ = some (.string (str x.tag)) := BC.cell (k := 2) rfl; have r2 : wc.cell? ⟨W.heap.size, 2, none⟩ = some (.string ⟨#[]⟩) := RC.cell (k := 2) rfl; have f2 := RC.frozen 2; have c3 : wc.cell? ⟨w1.heap.size, 3, none⟩ = some (.slice a x.nums.length c) := BC.cell (k := 3) rfl; have r3 : wc.cell? ⟨W.heap.size, 3, none⟩ = some (.slice none 0 0) := RC.cell (k := 3) rfl; have f3 := RC.frozen 3; have c4 : wc.cell? ⟨w1.heap.size, 4, none⟩ = some (.string (str x.frm.name)) := BC.cell (k := 4) rfl; have r4 : wc.cell? ⟨W.heap.size, 4, none⟩ = some (.string ⟨#[]⟩) := RC.cell (k := 4) rfl; have f4 := RC.frozen 4; have c5 : wc.cell? ⟨w1.heap.size, 5, none⟩ = some (.int .i64 x.frm.port) := BC.cell (k := 5) rfl; have r5 : wc.cell? ⟨W.heap.size, 5, none⟩ = some (.int .i64 0) := RC.cell (k := 5) rfl; have f5 := RC.frozen 5; have c6 : wc.cell? ⟨w1.heap.size, 6, none⟩ = some (.int .i64 x.frm.place) := BC.cell (k := 6) rfl; have r6 : wc.cell? ⟨W.heap.size, 6, none⟩ = some (.int .i64 0) := RC.cell (k := 6) rfl; have f6 := RC.frozen 6; have c7 : wc.cell? ⟨w1.heap.size, 7, none⟩ = some (.string (str x.to.name)) := BC.cell (k := 7) rfl; have r7 : wc.cell? ⟨W.heap.size, 7, none⟩ = some (.string ⟨#[]⟩) := RC.cell (k := 7) rfl; have f7 := RC.frozen 7; have c8 : wc.cell? ⟨w1.heap.size, 8, none⟩ = some (.int .i64 x.to.port) := BC.cell (k := 8) rfl; have r8 : wc.cell? ⟨W.heap.size, 8, none⟩ = some (.int .i64 0) := RC.cell (k := 8) rfl; have f8 := RC.frozen 8; have c9 : wc.cell? ⟨w1.heap.size, 9, none⟩ = some (.int .i64 x.to.place) := BC.cell (k := 9) rfl; have r9 : wc.cell? ⟨W.heap.size, 9, none⟩ = some (.int .i64 0) := RC.cell (k := 9) rfl; have f9 := RC.frozen 9; have c10 : wc.cell? ⟨w1.heap.size, 10, none⟩ = some (.int .i64 x.place) := BC.cell (k := 10) rfl; have r10 : wc.cell? ⟨W.heap.size, 10, none⟩ = some (.int .i64 0) := RC.cell (k := 10) rfl; have f10 := RC.frozen 10; clear BC RC; clear hg)
    | (go_at_call 71; (with_reducible refine (HC.out _ _ NE.out G4.out B4.out).mono ?_); rintro e wb ⟨rfl, ⟨ns, hbk, hin⟩, hg, hj⟩; obtain ⟨a, c, rfl⟩ := hin.shape; have GB := hidden hg; have BB := hidden hbk; have NB := hidden hin; have HX2 := hidden (HX.out hj); clear hg hj hbk hin)
    | (go_at_call 37; (with_reducible refine (HS2.out _ G3.out.par).mono ?_); rintro e w4 ⟨rfl, hb⟩; have G4 := hidden (G3.out.later hb); have B4 := hidden (B3.out.below hb); clear hb)
    | (go_at_call 37; (with_reducible refine (HS1.out _ G2.out.par).mono ?_); rintro e w3 ⟨rfl, hb⟩; have G3 := hidden (G2.out.later hb); have B3 := hidden (B2.out.below hb); clear hb)
    | (go_at_call 37; (with_reducible refine (HS0.out _ G1.out.par).mono ?_); rintro e w2 ⟨rfl, hb⟩; have G2 := hidden (G1.out.later hb); have B2 := hidden (B1.out.below hb); clear hb)
    | (go_at_call 17; (with_reducible refine HA.out.mono ?_); rintro e w1 ⟨rfl, hb⟩; have NE := hidden hb.size; have hb2 := hb.trans (((Below.refl w1.heap.size w1).alloc (Nat.le_refl _) (.cells #[.int .u8 0, .string ⟨#[]⟩, .string ⟨#[]⟩, .slice none 0 0, .string ⟨#[]⟩, .int .i64 0, .int .i64 0, .string ⟨#[]⟩, .int .i64 0, .int .i64 0, .int .i64 pl] 59)).mono hb.size); have G1 := hidden (Goes.stay HPW.out hb2); have B1 : Hid (Blk 59 w1.heap.size (w1.alloc (.cells #[.int .u8 0, .string ⟨#[]⟩, .string ⟨#[]⟩, .slice none 0 0, .string ⟨#[]⟩, .int .i64 0, .int .i64 0, .string ⟨#[]⟩, .int .i64 0, .int .i64 0, .int .i64 pl] 59)) (itC 0 [] [] (.slice none 0 0) noPlc noPlc pl)) := blk_new _ _ _; clear hb hb2))
  exact bodyPost_ret (v := .agg (itC x.kind x.name x.tag (.slice a x.nums.length c) x.frm x.to x.place)) (by simp [results, Tryz.results38, go_sem, r0, r1, r2, r3, r4, r5, r6, r7, r8, r9, r10, itC]) rfl ⟨⟨a, c, rfl, ((((((((((((NC.out.put HWL.out).put HWL.out).put HWL.out).put HWL.out).put HWL.out).put HWL.out).put HWL.out).put HWL.out).put HWL.out).put HWL.out).put HWL.out)).mono (Nat.le_of_lt HWL.out)⟩, ((((((((((((show Goes P v ts j2 W wc from ⟨GC.out.par, grown_of_below HB0.out GC.out.grown⟩).put HBK.out (Nat.le_refl _) _).put HBK.out (Nat.le_refl _) _).put HBK.out (Nat.le_refl _) _).put HBK.out (Nat.le_refl _) _).put HBK.out (Nat.le_refl _) _).put HBK.out (Nat.le_refl _) _).put HBK.out (Nat.le_refl _) _).put HBK.out (Nat.le_refl _) _).put HBK.out (Nat.le_refl _) _).put HBK.out (Nat.le_refl _) _).put HBK.out (Nat.le_refl _) _), HX2.out.1⟩

end Go.Proofs.YthgblljokonejaaGreatDoor

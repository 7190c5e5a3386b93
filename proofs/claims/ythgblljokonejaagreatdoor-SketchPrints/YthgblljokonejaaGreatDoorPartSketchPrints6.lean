/- Texts of one chain, laid one behind the other. -/
import Derived.Test.YthgblljokonejaaGreatDoorPartSketchPrints5
import Derived.Deep.Cut
/- An item's line, by the document (pianolaref05.line). (Written by tmpl/mkSR3.py.) -/
namespace Go.Proofs.YthgblljokonejaaGreatDoor
open Go.ChangeShapes Go.WideShapes Go.ChangeAt Go.RowKit

theorem rb_mono {W W0 : World} {vb : Value} {l : List UInt8} {wr : World} (h : RB W0 vb l wr) (hb : Below W.heap.size W W0) : RB W vb l wr :=
  ⟨⟨h.bytes.1, h.bytes.2.imp id fun ⟨g, cap, cur, hv, hg, r⟩ => ⟨g, cap, cur, hv, Nat.le_trans hb.size hg, r⟩⟩, hb.trans (h.bel.mono hb.size)⟩
/-- How the making of a line ends. -/
def LineE (W : World) (full : List UInt8) (e : Ending) (w' : World) : Prop := ∃ vb l, e = .returned vb ∧ RB W vb l w' ∧ Ext [] full l ∧ l.length ≤ 1048800
theorem line_all {HD : List UInt8} {ns : List Int} : Ext [] (HD ++ numsT ns ++ [59, 10]) (HD ++ numsT ns ++ [59, 10]) := Ext.all [] _
theorem line_cut {HD l : List UInt8} {ns : List Int} {k : Nat} (h : l = HD ++ numsT (ns.take k)) (hl : 1048576 < l.length) : Ext [] (HD ++ numsT ns ++ [59, 10]) (l ++ [59, 10]) := by
  refine ⟨Nat.zero_le _, .inr ⟨by simp; omega, ?_⟩⟩
  have h1 := nums_prefix ns k
  have h2 := congrArg List.length h
  simp at h2 ⊢
  omega

set_option maxRecDepth 100000 in
set_option maxHeartbeats 4000000 in
theorem rline_1 (W : World) (x : Itm) (a : Option Addr) (c : Nat) (hx : Neat x) (hr : IntsAt W (.slice a x.nums.length c) x.nums) (hnl : x.nums.length ≤ 1048576) (hk : x.kind = 1) :
    Calls Tryz.prog 31 #[.agg (itC x.kind x.name x.tag (.slice a x.nums.length c) x.frm x.to x.place)] W (LineE W (itemT x)) := by
  have HHD : headT x = [32, 32, 97, 99, 116, 111, 114, 32] ++ x.name ++ [32, 61, 32] ++ x.tag := by unfold headT; rw [if_pos hk]
  have HWT : withT x = [] := by unfold withT; rw [if_neg (fun h => by rw [hk] at h; exact absurd h.1 (by decide))]
  have HIT : itemT x = headT x ++ withT x ++ numsT x.nums ++ [59, 10] := rfl
  rw [HHD, HWT] at HIT
  rw [HIT]
  clear HIT HHD HWT
  obtain ⟨-, q1, q2, q3, q4, q5, q6, q7⟩ := hx
  have hpf := place_len x.frm q3 q5
  have hpt := place_len x.to q4 q6
  obtain ⟨ki, nm, tg, ns, ⟨fn, fp, fl⟩, ⟨tn, tp, tl⟩, pl⟩ := x
  unfold itC
  simp only at hk q1 q2 q3 q4 q5 q6 q7 hpf hpt hr hnl ⊢
  subst hk
  obtain ⟨HD, hHD⟩ : ∃ HD, HD = [32, 32, 97, 99, 116, 111, 114, 32] ++ nm ++ [32, 61, 32] ++ tg := ⟨_, rfl⟩
  have HHL : Hid (HD.length ≤ 100) := by show _ ≤ _; rw [hHD]; simp; omega
  rw [← hHD]
  have s1b : (str nm : ByteArray).size = (nm).length := str_size _
  have j1 : (⟨#[32, 32, 97, 99, 116, 111, 114, 32]⟩ : ByteArray) ++ str nm = str ([32, 32, 97, 99, 116, 111, 114, 32] ++ nm) := str_app _ _
  have s2a : (str ([32, 32, 97, 99, 116, 111, 114, 32] ++ nm) : ByteArray).size = ([32, 32, 97, 99, 116, 111, 114, 32] ++ nm).length := str_size _
  have j2 : (str ([32, 32, 97, 99, 116, 111, 114, 32] ++ nm) : ByteArray) ++ ⟨#[32, 61, 32]⟩ = str ([32, 32, 97, 99, 116, 111, 114, 32] ++ nm ++ [32, 61, 32]) := str_app _ _
  have s3a : (str ([32, 32, 97, 99, 116, 111, 114, 32] ++ nm ++ [32, 61, 32]) : ByteArray).size = ([32, 32, 97, 99, 116, 111, 114, 32] ++ nm ++ [32, 61, 32]).length := str_size _
  have s3b : (str tg : ByteArray).size = (tg).length := str_size _
  have j3 : (str ([32, 32, 97, 99, 116, 111, 114, 32] ++ nm ++ [32, 61, 32]) : ByteArray) ++ str tg = str ([32, 32, 97, 99, 116, 111, 114, 32] ++ nm ++ [32, 61, 32] ++ tg) := str_app _ _
  rw [← hHD] at j3
  have z1 : ¬ (9223372036854775807 < 8 + (str nm : ByteArray).size) := by rw [s1b]; omega
  have z2 : ¬ (9223372036854775807 < (str ([32, 32, 97, 99, 116, 111, 114, 32] ++ nm)).size + 3) := by rw [s2a]; simp; omega
  have z3 : ¬ (9223372036854775807 < (str ([32, 32, 97, 99, 116, 111, 114, 32] ++ nm ++ [32, 61, 32])).size + (str tg : ByteArray).size) := by rw [s3a, s3b]; simp; omega
  have HPF : Hid (∀ w1, Calls Tryz.prog 55 #[.agg #[.string (str fn), .int .i64 fp, .int .i64 fl]] w1 fun e w' => e = .returned (.string (str (placeT ⟨fn, fp, fl⟩))) ∧ Below w1.heap.size w1 w') := fun w1 => rat_any ⟨fn, fp, fl⟩ w1 q3 q5.1 q5.2
  have HPT : Hid (∀ w1, Calls Tryz.prog 55 #[.agg #[.string (str tn), .int .i64 tp, .int .i64 tl]] w1 fun e w' => e = .returned (.string (str (placeT ⟨tn, tp, tl⟩))) ∧ Below w1.heap.size w1 w') := fun w1 => rat_any ⟨tn, tp, tl⟩ w1 q4 q6.1 q6.2
  have HNS := hidden q7
  have HRW := hidden hr
  obtain ⟨i5, hi5, hy0, hy1, hy2⟩ := info_parts Tryz.info5
  have HJ := hidden hi5
  have HJ0 := hidden hy0
  have HJ1 := hidden hy1
  have HJ2 := hidden hy2
  have sHD := str_size HD
  obtain ⟨FULL, hFULL⟩ : ∃ F, F = HD ++ [] ++ numsT ns ++ [59, 10] := ⟨_, rfl⟩
  rw [← hFULL]
  have HFULL := hidden hFULL
  clear hFULL
  obtain ⟨n, hn⟩ : ∃ n, ns.length = n := ⟨_, rfl⟩
  rw [hn] at HRW hnl ⊢
  have hnI : (n : Int) ≤ 1048576 := by omega
  clear s1b s2a s3a s3b hpf hpt q1 q2 q3 q4 q5 q6 q7 hr hi5 hy0 hy1 hy2 hHD
  generalize str ([32, 32, 97, 99, 116, 111, 114, 32] ++ nm) = M1 at *
  generalize str ([32, 32, 97, 99, 116, 111, 114, 32] ++ nm ++ [32, 61, 32]) = M2 at *
  go_enter Tryz.func31, Tryz.ntmps31
  go_upto_region 2 with fail
  have hK := blk_new 59 W #[.int .u8 1, .string (str nm), .string (str tg), .slice a n c, .string (str fn), .int .i64 fp, .int .i64 fl, .string (str tn), .int .i64 tp, .int .i64 tl, .int .i64 pl]
  have hbA := (Below.refl W.heap.size W).alloc (Nat.le_refl _) (.cells #[.int .u8 1, .string (str nm), .string (str tg), .slice a n c, .string (str fn), .int .i64 fp, .int .i64 fl, .string (str tn), .int .i64 tp, .int .i64 tl, .int .i64 pl] 59)
  generalize W.alloc (.cells #[.int .u8 1, .string (str nm), .string (str tg), .slice a n c, .string (str fn), .int .i64 fp, .int .i64 fl, .string (str tn), .int .i64 tp, .int .i64 tl, .int .i64 pl] 59) = W0 at hK hbA ⊢
  have d0 : W0.cell? ⟨W.heap.size, 0, none⟩ = some (.int .u8 1) := hK.cell (k := 0) rfl
  have d1 : W0.cell? ⟨W.heap.size, 1, none⟩ = some (.string (str nm)) := hK.cell (k := 1) rfl
  have d2 : W0.cell? ⟨W.heap.size, 2, none⟩ = some (.string (str tg)) := hK.cell (k := 2) rfl
  have d3 : W0.cell? ⟨W.heap.size, 3, none⟩ = some (.slice a n c) := hK.cell (k := 3) rfl
  have d4 : W0.cell? ⟨W.heap.size, 4, none⟩ = some (.string (str fn)) := hK.cell (k := 4) rfl
  have d5 : W0.cell? ⟨W.heap.size, 5, none⟩ = some (.int .i64 fp) := hK.cell (k := 5) rfl
  have d6 : W0.cell? ⟨W.heap.size, 6, none⟩ = some (.int .i64 fl) := hK.cell (k := 6) rfl
  have d7 : W0.cell? ⟨W.heap.size, 7, none⟩ = some (.string (str tn)) := hK.cell (k := 7) rfl
  have d8 : W0.cell? ⟨W.heap.size, 8, none⟩ = some (.int .i64 tp) := hK.cell (k := 8) rfl
  have d9 : W0.cell? ⟨W.heap.size, 9, none⟩ = some (.int .i64 tl) := hK.cell (k := 9) rfl
  have d10 : W0.cell? ⟨W.heap.size, 10, none⟩ = some (.int .i64 pl) := hK.cell (k := 10) rfl
  have hlt := hK.lt
  have HBA := hidden hbA
  have D3 := hidden d3
  clear hK hbA
  have R0 : Hid (RB W0 (.slice none 0 0) [] W0) := ⟨World.ownsRow_nil _ _ _ _, Below.refl _ _⟩
  go_wp2_with (at_builtin; refine Lib.wpList_append_own_string _ rfl _ _ 67 9 rfl W0.heap.size 5 i5 Tryz.underlying67 Tryz.underlying9 HJ.out HJ0.out HJ1.out HJ2.out _ ([] : List UInt8).length (Lib.strCells (str ([] : List UInt8))) rfl R0.out.bytes (str HD) rfl (by have := HHL.out; rw [sHD]; simp only [List.length_nil]; unfold maxLen; omega) (by have := HHL.out; rw [sHD]; simp only [List.length_nil]; omega) R0.out.bel.size ?_; intro v1 w1 hown hgrow _; have R1 := hidden (R0.out.strA hown hgrow); have R1 : Hid (RB W0 v1 HD w1) := R1.out; obtain ⟨va1, vc1, rfl⟩ := R1.out.shape; clear hown hgrow)
  have HHQ : Hid (HD = HD ++ []) := by show _ = _; simp
  have HHT : Hid (HD.length ≤ 110) := by have := HHL.out; show _ ≤ _; omega
  go_loopg [3, 4] n (fun gk sv v wr => ∃ (k : Nat) (l : List UInt8) (va : Option Addr) (vc : Nat), k ≤ n ∧ gk = n - k ∧ v = .int .i64 (k : Int) ∧ sv = .slice va l.length vc ∧ RB W0 (.slice va l.length vc) l wr ∧ l = HD ++ numsT (ns.take k) ∧ l.length ≤ 1048700)
  case atStart => exact ⟨0, HD, va1, vc1, Nat.zero_le _, rfl, rfl, rfl, R1.out, by simp [numsT], by have := HHT.out; omega⟩
  case round =>
    clear R1
    obtain ⟨k, l, va, vc, hk, rfl, rfl, rfl, hR, hl, hl2⟩ := hrel
    have HR := hidden hR
    have HL := hidden hl
    have y3 := cell_keep hR.bel D3.out
    have hlI : (l.length : Int) ≤ 1048700 := by omega
    clear hR hl
    by_cases hlt2 : k < n ∧ l.length ≤ 1048576
    · obtain ⟨hlt3, hle⟩ := hlt2
      have hki : (k : Int) < (n : Int) := by omega
      have hli : (l.length : Int) ≤ 1048576 := by omega
      obtain ⟨ra, rc, re, hrow⟩ := HRW.out.below (HBA.out.trans (HR.out.bel.mono HBA.out.size))
      simp only [Value.slice.injEq] at re
      obtain ⟨rfl, -, rfl⟩ := re
      rcases hrow with e | ⟨g, off, rfl, hc⟩
      · rw [e] at hn; simp at hn; omega
      have hcell := hc k (by omega)
      have hsm : Small (ns.getD k 0) := HNS.out _ (by rw [List.getD_eq_getElem?_getD, List.getElem?_eq_getElem (by omega)]; exact List.getElem_mem _)
      have HTK := hidden (take_nums (ns := ns) (k := k) (by omega))
      clear hc
      generalize ns.getD k 0 = x at *
      have HDG : Hid (∀ w1, Calls Tryz.prog 56 #[.int .i64 x] w1 fun e w' => e = .returned (.string (str (Lib.itoa x))) ∧ Below w1.heap.size w1 w') := fun w1 => by rw [itoa_intS]; exact digits_any x w1 (fits_of hsm.1)
      have hIL := hsm.2
      have s1 : (ByteArray.mk #[32]).size = 1 := rfl
      have s2 := str_size (Lib.itoa x)
      have l1 : ¬ (9223372036854775807 < 1 + (Lib.itoa x).length) := by omega
      have jj : ByteArray.mk #[32] ++ str (Lib.itoa x) = str (numT x) := str_app [32] (Lib.itoa x)
      have HNL : Hid ((numT x).length ≤ 21) := by show (32 :: Lib.itoa x).length ≤ 21; rw [List.length_cons]; omega
      have sN := str_size (numT x)
      clear hsm hIL
      go_wp2_with (first
        | (at_builtin; refine Lib.wpList_append_own_string _ rfl _ _ 67 9 rfl W0.heap.size 5 i5 Tryz.underlying67 Tryz.underlying9 HJ.out HJ0.out HJ1.out HJ2.out _ l.length (Lib.strCells (str l)) rfl RD.out.bytes (str (numT x)) rfl (by have := HNL.out; rw [sN]; unfold maxLen; omega) (by have := HNL.out; rw [sN]; omega) RD.out.bel.size ?_; intro v4 w4 hown hgrow _; have R4 := hidden (RD.out.strA hown hgrow); obtain ⟨va4, vc4, rfl⟩ := R4.out.shape; clear hown hgrow)
        | (go_at_call 56; (with_reducible refine (HDG.out _).mono ?_); rintro e w3 ⟨rfl, hb3⟩; have RD := hidden (HR.out.below hb3); clear hb3))
      go_roundg (n - (k + 1))
      case measure => omega
      case rel => exact ⟨k + 1, l ++ numT x, va4, vc4, by omega, rfl, by go_num, by first | rfl | (simp only [List.length_append]), R4.out, by rw [HTK.out, ← List.append_assoc, ← HL.out], by have := HNL.out; rw [List.length_append]; omega⟩
    · have hE : Hid (Ext [] (HD ++ numsT ns ++ [59, 10]) (l ++ [59, 10])) := by
        by_cases h1 : 1048576 < l.length
        · exact line_cut HL.out h1
        · have ek : ns.length ≤ k := by omega
          have e1 := HL.out
          rw [List.take_of_length_le ek] at e1
          rw [e1]
          exact line_all
      have HX : Hid (HD ++ [] = HD) := HHQ.out.symm
      by_cases hlt3 : k < n
      · have hki : (k : Int) < (n : Int) := by omega
        have hli : ¬ (l.length : Int) ≤ 1048576 := by omega
        go_wp2_with (at_builtin; refine Lib.wpList_append_own_string _ rfl _ _ 67 9 rfl W0.heap.size 5 i5 Tryz.underlying67 Tryz.underlying9 HJ.out HJ0.out HJ1.out HJ2.out _ l.length (Lib.strCells (str l)) rfl HR.out.bytes (str [59, 10]) rfl (by rw [str_size]; simp only [List.length_nil, List.length_cons]; unfold maxLen; omega) (by rw [str_size]; simp only [List.length_nil, List.length_cons]; omega) HR.out.bel.size ?_; intro v4 w4 hown hgrow _; have R4 := hidden (HR.out.strA hown hgrow); clear hown hgrow)
        go_ret
        exact ⟨_, _, rfl, rb_mono R4.out HBA.out, by rw [HFULL.out, HX.out]; exact hE.out, by rw [List.length_append]; simp; omega⟩
      · have hki : ¬ (k : Int) < (n : Int) := by omega
        go_wp2_with (at_builtin; refine Lib.wpList_append_own_string _ rfl _ _ 67 9 rfl W0.heap.size 5 i5 Tryz.underlying67 Tryz.underlying9 HJ.out HJ0.out HJ1.out HJ2.out _ l.length (Lib.strCells (str l)) rfl HR.out.bytes (str [59, 10]) rfl (by rw [str_size]; simp only [List.length_nil, List.length_cons]; unfold maxLen; omega) (by rw [str_size]; simp only [List.length_nil, List.length_cons]; omega) HR.out.bel.size ?_; intro v4 w4 hown hgrow _; have R4 := hidden (HR.out.strA hown hgrow); clear hown hgrow)
        go_ret
        exact ⟨_, _, rfl, rb_mono R4.out HBA.out, by rw [HFULL.out, HX.out]; exact hE.out, by rw [List.length_append]; simp; omega⟩

set_option maxRecDepth 100000 in
set_option maxHeartbeats 4000000 in
theorem rline_2y (W : World) (x : Itm) (a : Option Addr) (c : Nat) (hx : Neat x) (hr : IntsAt W (.slice a x.nums.length c) x.nums) (hnl : x.nums.length ≤ 1048576) (hk : x.kind = 2) (hw : x.nums ≠ []) :
    Calls Tryz.prog 31 #[.agg (itC x.kind x.name x.tag (.slice a x.nums.length c) x.frm x.to x.place)] W (LineE W (itemT x)) := by
  have HHD : headT x = [32, 32, 101, 100, 103, 101, 32] ++ placeT x.frm ++ [32, 45, 62, 32] ++ placeT x.to := by unfold headT; rw [if_neg (by rw [hk]; decide), if_pos hk]
  have HWT : withT x = [32, 119, 105, 116, 104] := by unfold withT; rw [if_pos ⟨hk, hw⟩]
  have HIT : itemT x = headT x ++ withT x ++ numsT x.nums ++ [59, 10] := rfl
  rw [HHD, HWT] at HIT
  rw [HIT]
  clear HIT HHD HWT
  obtain ⟨-, q1, q2, q3, q4, q5, q6, q7⟩ := hx
  have hpf := place_len x.frm q3 q5
  have hpt := place_len x.to q4 q6
  obtain ⟨ki, nm, tg, ns, ⟨fn, fp, fl⟩, ⟨tn, tp, tl⟩, pl⟩ := x
  unfold itC
  simp only at hk q1 q2 q3 q4 q5 q6 q7 hpf hpt hr hnl hw ⊢
  subst hk
  obtain ⟨HD, hHD⟩ : ∃ HD, HD = [32, 32, 101, 100, 103, 101, 32] ++ (placeT ⟨fn, fp, fl⟩) ++ [32, 45, 62, 32] ++ (placeT ⟨tn, tp, tl⟩) := ⟨_, rfl⟩
  have HHL : Hid (HD.length ≤ 100) := by show _ ≤ _; rw [hHD]; simp; omega
  rw [← hHD]
  have s1b : (str (placeT ⟨fn, fp, fl⟩) : ByteArray).size = ((placeT ⟨fn, fp, fl⟩)).length := str_size _
  have j1 : (⟨#[32, 32, 101, 100, 103, 101, 32]⟩ : ByteArray) ++ str (placeT ⟨fn, fp, fl⟩) = str ([32, 32, 101, 100, 103, 101, 32] ++ (placeT ⟨fn, fp, fl⟩)) := str_app _ _
  have s2a : (str ([32, 32, 101, 100, 103, 101, 32] ++ (placeT ⟨fn, fp, fl⟩)) : ByteArray).size = ([32, 32, 101, 100, 103, 101, 32] ++ (placeT ⟨fn, fp, fl⟩)).length := str_size _
  have j2 : (str ([32, 32, 101, 100, 103, 101, 32] ++ (placeT ⟨fn, fp, fl⟩)) : ByteArray) ++ ⟨#[32, 45, 62, 32]⟩ = str ([32, 32, 101, 100, 103, 101, 32] ++ (placeT ⟨fn, fp, fl⟩) ++ [32, 45, 62, 32]) := str_app _ _
  have s3a : (str ([32, 32, 101, 100, 103, 101, 32] ++ (placeT ⟨fn, fp, fl⟩) ++ [32, 45, 62, 32]) : ByteArray).size = ([32, 32, 101, 100, 103, 101, 32] ++ (placeT ⟨fn, fp, fl⟩) ++ [32, 45, 62, 32]).length := str_size _
  have s3b : (str (placeT ⟨tn, tp, tl⟩) : ByteArray).size = ((placeT ⟨tn, tp, tl⟩)).length := str_size _
  have j3 : (str ([32, 32, 101, 100, 103, 101, 32] ++ (placeT ⟨fn, fp, fl⟩) ++ [32, 45, 62, 32]) : ByteArray) ++ str (placeT ⟨tn, tp, tl⟩) = str ([32, 32, 101, 100, 103, 101, 32] ++ (placeT ⟨fn, fp, fl⟩) ++ [32, 45, 62, 32] ++ (placeT ⟨tn, tp, tl⟩)) := str_app _ _
  rw [← hHD] at j3
  have z1 : ¬ (9223372036854775807 < 7 + (str (placeT ⟨fn, fp, fl⟩) : ByteArray).size) := by rw [s1b]; omega
  have z2 : ¬ (9223372036854775807 < (str ([32, 32, 101, 100, 103, 101, 32] ++ (placeT ⟨fn, fp, fl⟩))).size + 4) := by rw [s2a]; simp; omega
  have z3 : ¬ (9223372036854775807 < (str ([32, 32, 101, 100, 103, 101, 32] ++ (placeT ⟨fn, fp, fl⟩) ++ [32, 45, 62, 32])).size + (str (placeT ⟨tn, tp, tl⟩) : ByteArray).size) := by rw [s3a, s3b]; simp; omega
  have HPF : Hid (∀ w1, Calls Tryz.prog 55 #[.agg #[.string (str fn), .int .i64 fp, .int .i64 fl]] w1 fun e w' => e = .returned (.string (str (placeT ⟨fn, fp, fl⟩))) ∧ Below w1.heap.size w1 w') := fun w1 => rat_any ⟨fn, fp, fl⟩ w1 q3 q5.1 q5.2
  have HPT : Hid (∀ w1, Calls Tryz.prog 55 #[.agg #[.string (str tn), .int .i64 tp, .int .i64 tl]] w1 fun e w' => e = .returned (.string (str (placeT ⟨tn, tp, tl⟩))) ∧ Below w1.heap.size w1 w') := fun w1 => rat_any ⟨tn, tp, tl⟩ w1 q4 q6.1 q6.2
  have HNS := hidden q7
  have HRW := hidden hr
  obtain ⟨i5, hi5, hy0, hy1, hy2⟩ := info_parts Tryz.info5
  have HJ := hidden hi5
  have HJ0 := hidden hy0
  have HJ1 := hidden hy1
  have HJ2 := hidden hy2
  have sHD := str_size HD
  obtain ⟨FULL, hFULL⟩ : ∃ F, F = HD ++ [32, 119, 105, 116, 104] ++ numsT ns ++ [59, 10] := ⟨_, rfl⟩
  rw [← hFULL]
  have HFULL := hidden hFULL
  clear hFULL
  obtain ⟨n, hn⟩ : ∃ n, ns.length = n := ⟨_, rfl⟩
  rw [hn] at HRW hnl ⊢
  have hn1 : 0 < n := by cases ns with | nil => exact absurd rfl hw | cons _ _ => simp at hn; omega
  have hn1i : (0 : Int) < (n : Int) := by omega
  clear hw
  have hnI : (n : Int) ≤ 1048576 := by omega
  clear s1b s2a s3a s3b hpf hpt q1 q2 q3 q4 q5 q6 q7 hr hi5 hy0 hy1 hy2 hHD
  generalize str ([32, 32, 101, 100, 103, 101, 32] ++ (placeT ⟨fn, fp, fl⟩)) = M1 at *
  generalize str ([32, 32, 101, 100, 103, 101, 32] ++ (placeT ⟨fn, fp, fl⟩) ++ [32, 45, 62, 32]) = M2 at *
  go_enter Tryz.func31, Tryz.ntmps31
  go_upto_region 2 with fail
  have hK := blk_new 59 W #[.int .u8 2, .string (str nm), .string (str tg), .slice a n c, .string (str fn), .int .i64 fp, .int .i64 fl, .string (str tn), .int .i64 tp, .int .i64 tl, .int .i64 pl]
  have hbA := (Below.refl W.heap.size W).alloc (Nat.le_refl _) (.cells #[.int .u8 2, .string (str nm), .string (str tg), .slice a n c, .string (str fn), .int .i64 fp, .int .i64 fl, .string (str tn), .int .i64 tp, .int .i64 tl, .int .i64 pl] 59)
  generalize W.alloc (.cells #[.int .u8 2, .string (str nm), .string (str tg), .slice a n c, .string (str fn), .int .i64 fp, .int .i64 fl, .string (str tn), .int .i64 tp, .int .i64 tl, .int .i64 pl] 59) = W0 at hK hbA ⊢
  have d0 : W0.cell? ⟨W.heap.size, 0, none⟩ = some (.int .u8 2) := hK.cell (k := 0) rfl
  have d1 : W0.cell? ⟨W.heap.size, 1, none⟩ = some (.string (str nm)) := hK.cell (k := 1) rfl
  have d2 : W0.cell? ⟨W.heap.size, 2, none⟩ = some (.string (str tg)) := hK.cell (k := 2) rfl
  have d3 : W0.cell? ⟨W.heap.size, 3, none⟩ = some (.slice a n c) := hK.cell (k := 3) rfl
  have d4 : W0.cell? ⟨W.heap.size, 4, none⟩ = some (.string (str fn)) := hK.cell (k := 4) rfl
  have d5 : W0.cell? ⟨W.heap.size, 5, none⟩ = some (.int .i64 fp) := hK.cell (k := 5) rfl
  have d6 : W0.cell? ⟨W.heap.size, 6, none⟩ = some (.int .i64 fl) := hK.cell (k := 6) rfl
  have d7 : W0.cell? ⟨W.heap.size, 7, none⟩ = some (.string (str tn)) := hK.cell (k := 7) rfl
  have d8 : W0.cell? ⟨W.heap.size, 8, none⟩ = some (.int .i64 tp) := hK.cell (k := 8) rfl
  have d9 : W0.cell? ⟨W.heap.size, 9, none⟩ = some (.int .i64 tl) := hK.cell (k := 9) rfl
  have d10 : W0.cell? ⟨W.heap.size, 10, none⟩ = some (.int .i64 pl) := hK.cell (k := 10) rfl
  have hlt := hK.lt
  have HBA := hidden hbA
  have D3 := hidden d3
  clear hK hbA
  go_wp2
  refine wp_region_said 10 (fun i u v => match i with
      | 0 => v = .slice none 0 0
      | 1 => v = .pointer (some ⟨W.heap.size, 4, none⟩)
      | 2 => v = .agg #[.string (str fn), .int .i64 fp, .int .i64 fl]
      | 3 => v = .string (str (placeT ⟨fn, fp, fl⟩))
      | 4 => v = .string M1
      | 5 => v = .string M2
      | 6 => v = .pointer (some ⟨W.heap.size, 7, none⟩)
      | 7 => v = .agg #[.string (str tn), .int .i64 tp, .int .i64 tl]
      | 8 => v = .string (str (placeT ⟨tn, tp, tl⟩))
      | 9 => v = .string (str HD)
      | _ => True) (by kernel_rfl) (by kernel_rfl) (by kernel_rfl) (by kernel_rfl) ?_ ?_ ?_
  · intro i w v w' h hb
    match i, h with
    | 0, h => exact h
    | 1, h => exact h
    | 2, h => exact h
    | 3, h => exact h
    | 4, h => exact h
    | 5, h => exact h
    | 6, h => exact h
    | 7, h => exact h
    | 8, h => exact h
    | 9, h => exact h
    | _ + 10, _ => trivial
  · intro i o ρ w' hi ho hb hc hf hfr hdep
    have LK : ∀ {a : Addr} {x : Value}, a.block < W0.heap.size → W0.cell? a = some x → w'.cell? a = some x := fun h1 h2 => (hb.cell h1).trans h2
    have k1 := LK hlt d1
    have k4 := LK hlt d4
    have k5 := LK hlt d5
    have k6 := LK hlt d6
    have k7 := LK hlt d7
    have k8 := LK hlt d8
    have k9 := LK hlt d9
    match i, hi with
    | 0, _ =>
      simp only [List.getElem?_toArray, List.getElem?_cons_zero, Option.some.injEq] at ho
      subst ho
      have ts : ρ (.tmp 3) = .slice none 0 0 := hfr 3 (by kernel_rfl)
      simp [go_sem, ts]
      exact ⟨Below.refl _ _, rfl⟩
    | 1, _ =>
      simp only [List.getElem?_toArray, List.getElem?_cons_zero, List.getElem?_cons_succ, Option.some.injEq] at ho
      subst ho
      have ts : ρ (.tmp 1) = .pointer (some ⟨W.heap.size, 0, none⟩) := hfr 1 (by kernel_rfl)
      simp [go_sem, ts]
      exact ⟨Below.refl _ _, rfl⟩
    | 2, _ =>
      simp only [List.getElem?_toArray, List.getElem?_cons_zero, List.getElem?_cons_succ, Option.some.injEq] at ho
      subst ho
      have ts : ρ (.tmp 21) = .pointer (some ⟨W.heap.size, 4, none⟩) := hdep 1 21 (by kernel_rfl) (by kernel_rfl)
      simp [go_sem, ts, k4, k5, k6]
      exact ⟨Below.refl _ _, rfl⟩
    | 3, _ =>
      simp only [List.getElem?_toArray, List.getElem?_cons_zero, List.getElem?_cons_succ, Option.some.injEq] at ho
      subst ho
      have tq : ρ (.tmp 22) = .agg #[.string (str fn), .int .i64 fp, .int .i64 fl] := hdep 2 22 (by kernel_rfl) (by kernel_rfl)
      simp [go_sem, tq, hf]
      exact ⟨rfl, (HPF.out w').mono fun e u h => ⟨_, h.1, h.2, rfl⟩⟩
    | 4, _ =>
      simp only [List.getElem?_toArray, List.getElem?_cons_zero, List.getElem?_cons_succ, Option.some.injEq] at ho
      subst ho
      have tq : ρ (.tmp 23) = .string (str (placeT ⟨fn, fp, fl⟩)) := hdep 3 23 (by kernel_rfl) (by kernel_rfl)
      simp [go_sem, tq, hc, z1, j1]
      exact ⟨Below.refl _ _, rfl⟩
    | 5, _ =>
      simp only [List.getElem?_toArray, List.getElem?_cons_zero, List.getElem?_cons_succ, Option.some.injEq] at ho
      subst ho
      have tq : ρ (.tmp 24) = .string M1 := hdep 4 24 (by kernel_rfl) (by kernel_rfl)
      simp [go_sem, tq, hc, z2, j2]
      exact ⟨Below.refl _ _, rfl⟩
    | 6, _ =>
      simp only [List.getElem?_toArray, List.getElem?_cons_zero, List.getElem?_cons_succ, Option.some.injEq] at ho
      subst ho
      have ts : ρ (.tmp 1) = .pointer (some ⟨W.heap.size, 0, none⟩) := hfr 1 (by kernel_rfl)
      simp [go_sem, ts]
      exact ⟨Below.refl _ _, rfl⟩
    | 7, _ =>
      simp only [List.getElem?_toArray, List.getElem?_cons_zero, List.getElem?_cons_succ, Option.some.injEq] at ho
      subst ho
      have ts : ρ (.tmp 26) = .pointer (some ⟨W.heap.size, 7, none⟩) := hdep 6 26 (by kernel_rfl) (by kernel_rfl)
      simp [go_sem, ts, k7, k8, k9]
      exact ⟨Below.refl _ _, rfl⟩
    | 8, _ =>
      simp only [List.getElem?_toArray, List.getElem?_cons_zero, List.getElem?_cons_succ, Option.some.injEq] at ho
      subst ho
      have tq : ρ (.tmp 27) = .agg #[.string (str tn), .int .i64 tp, .int .i64 tl] := hdep 7 27 (by kernel_rfl) (by kernel_rfl)
      simp [go_sem, tq, hf]
      exact ⟨rfl, (HPT.out w').mono fun e u h => ⟨_, h.1, h.2, rfl⟩⟩
    | 9, _ =>
      simp only [List.getElem?_toArray, List.getElem?_cons_zero, List.getElem?_cons_succ, Option.some.injEq] at ho
      subst ho
      have t1 : ρ (.tmp 25) = .string M2 := hdep 5 25 (by kernel_rfl) (by kernel_rfl)
      have t2 : ρ (.tmp 28) = .string (str (placeT ⟨tn, tp, tl⟩)) := hdep 8 28 (by kernel_rfl) (by kernel_rfl)
      simp [go_sem, t1, t2, z3, j3]
      exact ⟨Below.refl _ _, rfl⟩
  · intro V w9 q9 hS
    have e0 : V 0 = .slice none 0 0 := hS 0 (by decide)
    have e1 : V 1 = .pointer (some ⟨W.heap.size, 4, none⟩) := hS 1 (by decide)
    have e2 : V 2 = .agg #[.string (str fn), .int .i64 fp, .int .i64 fl] := hS 2 (by decide)
    have e3 : V 3 = .string (str (placeT ⟨fn, fp, fl⟩)) := hS 3 (by decide)
    have e4 : V 4 = .string M1 := hS 4 (by decide)
    have e5 : V 5 = .string M2 := hS 5 (by decide)
    have e6 : V 6 = .pointer (some ⟨W.heap.size, 7, none⟩) := hS 6 (by decide)
    have e7 : V 7 = .agg #[.string (str tn), .int .i64 tp, .int .i64 tl] := hS 7 (by decide)
    have e8 : V 8 = .string (str (placeT ⟨tn, tp, tl⟩)) := hS 8 (by decide)
    have e9 : V 9 = .string (str HD) := hS 9 (by decide)
    simp only [List.drop_succ_cons, List.drop_zero, List.take_succ_cons, List.take_zero, puts, e0, e1, e2, e3, e4, e5, e6, e7, e8, e9]
    simp only [Act.put, List.setIfInBounds_toArray, List.set_cons_zero, List.set_cons_succ]
    clear hS e0 e1 e2 e3 e4 e5 e6 e7 e8 e9 V
    have R0 : Hid (RB W0 (.slice none 0 0) [] w9) := ⟨World.ownsRow_nil _ _ _ _, q9⟩
    go_wp2_with (first
      | (at_builtin; refine Lib.wpList_append_own_string _ rfl _ _ 67 9 rfl W0.heap.size 5 i5 Tryz.underlying67 Tryz.underlying9 HJ.out HJ0.out HJ1.out HJ2.out _ HD.length (Lib.strCells (str HD)) rfl R1.out.bytes (str [32, 119, 105, 116, 104]) rfl (by have := HHL.out; rw [str_size]; simp only [List.length_nil, List.length_cons]; unfold maxLen; omega) (by have := HHL.out; rw [str_size]; simp only [List.length_nil, List.length_cons]; omega) R1.out.bel.size ?_; intro v2 w2 hown hgrow _; have R2 := hidden (R1.out.strA hown hgrow); obtain ⟨HT, hHT⟩ : ∃ HT, HT = HD ++ [32, 119, 105, 116, 104] := ⟨_, rfl⟩; rw [← hHT] at R2; have HHT : Hid (HT.length ≤ 110) := (by have := HHL.out; show _ ≤ _; rw [hHT]; simp; omega); have HHQ := hidden hHT; clear hHT; obtain ⟨va2, vc2, rfl⟩ := R2.out.shape; clear hown hgrow)
      | (at_builtin; refine Lib.wpList_append_own_string _ rfl _ _ 67 9 rfl W0.heap.size 5 i5 Tryz.underlying67 Tryz.underlying9 HJ.out HJ0.out HJ1.out HJ2.out _ ([] : List UInt8).length (Lib.strCells (str ([] : List UInt8))) rfl R0.out.bytes (str HD) rfl (by have := HHL.out; rw [sHD]; simp only [List.length_nil]; unfold maxLen; omega) (by have := HHL.out; rw [sHD]; simp only [List.length_nil]; omega) R0.out.bel.size ?_; intro v1 w1 hown hgrow _; have R1 := hidden (R0.out.strA hown hgrow); have R1 : Hid (RB W0 v1 HD w1) := R1.out; have g3 := cell_keep R1.out.bel D3.out; obtain ⟨va1, vc1, rfl⟩ := R1.out.shape; clear hown hgrow))
    go_loopg [3, 4] n (fun gk sv v wr => ∃ (k : Nat) (l : List UInt8) (va : Option Addr) (vc : Nat), k ≤ n ∧ gk = n - k ∧ v = .int .i64 (k : Int) ∧ sv = .slice va l.length vc ∧ RB W0 (.slice va l.length vc) l wr ∧ l = HT ++ numsT (ns.take k) ∧ l.length ≤ 1048700)
    case atStart => exact ⟨0, HT, va2, vc2, Nat.zero_le _, rfl, rfl, rfl, R2.out, by simp [numsT], by have := HHT.out; omega⟩
    case round =>
      clear R2
      obtain ⟨k, l, va, vc, hk, rfl, rfl, rfl, hR, hl, hl2⟩ := hrel
      have HR := hidden hR
      have HL := hidden hl
      have y3 := cell_keep hR.bel D3.out
      have hlI : (l.length : Int) ≤ 1048700 := by omega
      clear hR hl
      by_cases hlt2 : k < n ∧ l.length ≤ 1048576
      · obtain ⟨hlt3, hle⟩ := hlt2
        have hki : (k : Int) < (n : Int) := by omega
        have hli : (l.length : Int) ≤ 1048576 := by omega
        obtain ⟨ra, rc, re, hrow⟩ := HRW.out.below (HBA.out.trans (HR.out.bel.mono HBA.out.size))
        simp only [Value.slice.injEq] at re
        obtain ⟨rfl, -, rfl⟩ := re
        rcases hrow with e | ⟨g, off, rfl, hc⟩
        · rw [e] at hn; simp at hn; omega
        have hcell := hc k (by omega)
        have hsm : Small (ns.getD k 0) := HNS.out _ (by rw [List.getD_eq_getElem?_getD, List.getElem?_eq_getElem (by omega)]; exact List.getElem_mem _)
        have HTK := hidden (take_nums (ns := ns) (k := k) (by omega))
        clear hc
        generalize ns.getD k 0 = x at *
        have HDG : Hid (∀ w1, Calls Tryz.prog 56 #[.int .i64 x] w1 fun e w' => e = .returned (.string (str (Lib.itoa x))) ∧ Below w1.heap.size w1 w') := fun w1 => by rw [itoa_intS]; exact digits_any x w1 (fits_of hsm.1)
        have hIL := hsm.2
        have s1 : (ByteArray.mk #[32]).size = 1 := rfl
        have s2 := str_size (Lib.itoa x)
        have l1 : ¬ (9223372036854775807 < 1 + (Lib.itoa x).length) := by omega
        have jj : ByteArray.mk #[32] ++ str (Lib.itoa x) = str (numT x) := str_app [32] (Lib.itoa x)
        have HNL : Hid ((numT x).length ≤ 21) := by show (32 :: Lib.itoa x).length ≤ 21; rw [List.length_cons]; omega
        have sN := str_size (numT x)
        clear hsm hIL
        go_wp2_with (first
          | (at_builtin; refine Lib.wpList_append_own_string _ rfl _ _ 67 9 rfl W0.heap.size 5 i5 Tryz.underlying67 Tryz.underlying9 HJ.out HJ0.out HJ1.out HJ2.out _ l.length (Lib.strCells (str l)) rfl RD.out.bytes (str (numT x)) rfl (by have := HNL.out; rw [sN]; unfold maxLen; omega) (by have := HNL.out; rw [sN]; omega) RD.out.bel.size ?_; intro v4 w4 hown hgrow _; have R4 := hidden (RD.out.strA hown hgrow); obtain ⟨va4, vc4, rfl⟩ := R4.out.shape; clear hown hgrow)
          | (go_at_call 56; (with_reducible refine (HDG.out _).mono ?_); rintro e w3 ⟨rfl, hb3⟩; have RD := hidden (HR.out.below hb3); clear hb3))
        go_roundg (n - (k + 1))
        case measure => omega
        case rel => exact ⟨k + 1, l ++ numT x, va4, vc4, by omega, rfl, by go_num, by first | rfl | (simp only [List.length_append]), R4.out, by rw [HTK.out, ← List.append_assoc, ← HL.out], by have := HNL.out; rw [List.length_append]; omega⟩
      · have hE : Hid (Ext [] (HT ++ numsT ns ++ [59, 10]) (l ++ [59, 10])) := by
          by_cases h1 : 1048576 < l.length
          · exact line_cut HL.out h1
          · have ek : ns.length ≤ k := by omega
            have e1 := HL.out
            rw [List.take_of_length_le ek] at e1
            rw [e1]
            exact line_all
        have HX : Hid (HD ++ [32, 119, 105, 116, 104] = HT) := HHQ.out.symm
        by_cases hlt3 : k < n
        · have hki : (k : Int) < (n : Int) := by omega
          have hli : ¬ (l.length : Int) ≤ 1048576 := by omega
          go_wp2_with (at_builtin; refine Lib.wpList_append_own_string _ rfl _ _ 67 9 rfl W0.heap.size 5 i5 Tryz.underlying67 Tryz.underlying9 HJ.out HJ0.out HJ1.out HJ2.out _ l.length (Lib.strCells (str l)) rfl HR.out.bytes (str [59, 10]) rfl (by rw [str_size]; simp only [List.length_nil, List.length_cons]; unfold maxLen; omega) (by rw [str_size]; simp only [List.length_nil, List.length_cons]; omega) HR.out.bel.size ?_; intro v4 w4 hown hgrow _; have R4 := hidden (HR.out.strA hown hgrow); clear hown hgrow)
          go_ret
          exact ⟨_, _, rfl, rb_mono R4.out HBA.out, by rw [HFULL.out, HX.out]; exact hE.out, by rw [List.length_append]; simp; omega⟩
        · have hki : ¬ (k : Int) < (n : Int) := by omega
          go_wp2_with (at_builtin; refine Lib.wpList_append_own_string _ rfl _ _ 67 9 rfl W0.heap.size 5 i5 Tryz.underlying67 Tryz.underlying9 HJ.out HJ0.out HJ1.out HJ2.out _ l.length (Lib.strCells (str l)) rfl HR.out.bytes (str [59, 10]) rfl (by rw [str_size]; simp only [List.length_nil, List.length_cons]; unfold maxLen; omega) (by rw [str_size]; simp only [List.length_nil, List.length_cons]; omega) HR.out.bel.size ?_; intro v4 w4 hown hgrow _; have R4 := hidden (HR.out.strA hown hgrow); clear hown hgrow)
          go_ret
          exact ⟨_, _, rfl, rb_mono R4.out HBA.out, by rw [HFULL.out, HX.out]; exact hE.out, by rw [List.length_append]; simp; omega⟩

set_option maxRecDepth 100000 in
set_option maxHeartbeats 4000000 in
theorem rline_2n (W : World) (x : Itm) (a : Option Addr) (c : Nat) (hx : Neat x) (hr : IntsAt W (.slice a x.nums.length c) x.nums) (hnl : x.nums.length ≤ 1048576) (hk : x.kind = 2) (hw : x.nums = []) :
    Calls Tryz.prog 31 #[.agg (itC x.kind x.name x.tag (.slice a x.nums.length c) x.frm x.to x.place)] W (LineE W (itemT x)) := by
  have HHD : headT x = [32, 32, 101, 100, 103, 101, 32] ++ placeT x.frm ++ [32, 45, 62, 32] ++ placeT x.to := by unfold headT; rw [if_neg (by rw [hk]; decide), if_pos hk]
  have HWT : withT x = [] := by unfold withT; rw [if_neg (fun h => h.2 hw)]
  have HIT : itemT x = headT x ++ withT x ++ numsT x.nums ++ [59, 10] := rfl
  rw [HHD, HWT] at HIT
  rw [HIT]
  clear HIT HHD HWT
  obtain ⟨-, q1, q2, q3, q4, q5, q6, q7⟩ := hx
  have hpf := place_len x.frm q3 q5
  have hpt := place_len x.to q4 q6
  obtain ⟨ki, nm, tg, ns, ⟨fn, fp, fl⟩, ⟨tn, tp, tl⟩, pl⟩ := x
  unfold itC
  simp only at hk q1 q2 q3 q4 q5 q6 q7 hpf hpt hr hnl hw ⊢
  subst hk
  obtain ⟨HD, hHD⟩ : ∃ HD, HD = [32, 32, 101, 100, 103, 101, 32] ++ (placeT ⟨fn, fp, fl⟩) ++ [32, 45, 62, 32] ++ (placeT ⟨tn, tp, tl⟩) := ⟨_, rfl⟩
  have HHL : Hid (HD.length ≤ 100) := by show _ ≤ _; rw [hHD]; simp; omega
  rw [← hHD]
  have s1b : (str (placeT ⟨fn, fp, fl⟩) : ByteArray).size = ((placeT ⟨fn, fp, fl⟩)).length := str_size _
  have j1 : (⟨#[32, 32, 101, 100, 103, 101, 32]⟩ : ByteArray) ++ str (placeT ⟨fn, fp, fl⟩) = str ([32, 32, 101, 100, 103, 101, 32] ++ (placeT ⟨fn, fp, fl⟩)) := str_app _ _
  have s2a : (str ([32, 32, 101, 100, 103, 101, 32] ++ (placeT ⟨fn, fp, fl⟩)) : ByteArray).size = ([32, 32, 101, 100, 103, 101, 32] ++ (placeT ⟨fn, fp, fl⟩)).length := str_size _
  have j2 : (str ([32, 32, 101, 100, 103, 101, 32] ++ (placeT ⟨fn, fp, fl⟩)) : ByteArray) ++ ⟨#[32, 45, 62, 32]⟩ = str ([32, 32, 101, 100, 103, 101, 32] ++ (placeT ⟨fn, fp, fl⟩) ++ [32, 45, 62, 32]) := str_app _ _
  have s3a : (str ([32, 32, 101, 100, 103, 101, 32] ++ (placeT ⟨fn, fp, fl⟩) ++ [32, 45, 62, 32]) : ByteArray).size = ([32, 32, 101, 100, 103, 101, 32] ++ (placeT ⟨fn, fp, fl⟩) ++ [32, 45, 62, 32]).length := str_size _
  have s3b : (str (placeT ⟨tn, tp, tl⟩) : ByteArray).size = ((placeT ⟨tn, tp, tl⟩)).length := str_size _
  have j3 : (str ([32, 32, 101, 100, 103, 101, 32] ++ (placeT ⟨fn, fp, fl⟩) ++ [32, 45, 62, 32]) : ByteArray) ++ str (placeT ⟨tn, tp, tl⟩) = str ([32, 32, 101, 100, 103, 101, 32] ++ (placeT ⟨fn, fp, fl⟩) ++ [32, 45, 62, 32] ++ (placeT ⟨tn, tp, tl⟩)) := str_app _ _
  rw [← hHD] at j3
  have z1 : ¬ (9223372036854775807 < 7 + (str (placeT ⟨fn, fp, fl⟩) : ByteArray).size) := by rw [s1b]; omega
  have z2 : ¬ (9223372036854775807 < (str ([32, 32, 101, 100, 103, 101, 32] ++ (placeT ⟨fn, fp, fl⟩))).size + 4) := by rw [s2a]; simp; omega
  have z3 : ¬ (9223372036854775807 < (str ([32, 32, 101, 100, 103, 101, 32] ++ (placeT ⟨fn, fp, fl⟩) ++ [32, 45, 62, 32])).size + (str (placeT ⟨tn, tp, tl⟩) : ByteArray).size) := by rw [s3a, s3b]; simp; omega
  have HPF : Hid (∀ w1, Calls Tryz.prog 55 #[.agg #[.string (str fn), .int .i64 fp, .int .i64 fl]] w1 fun e w' => e = .returned (.string (str (placeT ⟨fn, fp, fl⟩))) ∧ Below w1.heap.size w1 w') := fun w1 => rat_any ⟨fn, fp, fl⟩ w1 q3 q5.1 q5.2
  have HPT : Hid (∀ w1, Calls Tryz.prog 55 #[.agg #[.string (str tn), .int .i64 tp, .int .i64 tl]] w1 fun e w' => e = .returned (.string (str (placeT ⟨tn, tp, tl⟩))) ∧ Below w1.heap.size w1 w') := fun w1 => rat_any ⟨tn, tp, tl⟩ w1 q4 q6.1 q6.2
  have HNS := hidden q7
  have HRW := hidden hr
  obtain ⟨i5, hi5, hy0, hy1, hy2⟩ := info_parts Tryz.info5
  have HJ := hidden hi5
  have HJ0 := hidden hy0
  have HJ1 := hidden hy1
  have HJ2 := hidden hy2
  have sHD := str_size HD
  obtain ⟨FULL, hFULL⟩ : ∃ F, F = HD ++ [] ++ numsT ns ++ [59, 10] := ⟨_, rfl⟩
  rw [← hFULL]
  have HFULL := hidden hFULL
  clear hFULL
  obtain ⟨n, hn⟩ : ∃ n, ns.length = n := ⟨_, rfl⟩
  rw [hn] at HRW hnl ⊢
  have n0 : n = 0 := by rw [← hn, hw]; rfl
  subst n0
  clear hw
  clear s1b s2a s3a s3b hpf hpt q1 q2 q3 q4 q5 q6 q7 hr hi5 hy0 hy1 hy2 hHD
  generalize str ([32, 32, 101, 100, 103, 101, 32] ++ (placeT ⟨fn, fp, fl⟩)) = M1 at *
  generalize str ([32, 32, 101, 100, 103, 101, 32] ++ (placeT ⟨fn, fp, fl⟩) ++ [32, 45, 62, 32]) = M2 at *
  go_enter Tryz.func31, Tryz.ntmps31
  go_upto_region 2 with fail
  have hK := blk_new 59 W #[.int .u8 2, .string (str nm), .string (str tg), .slice a 0 c, .string (str fn), .int .i64 fp, .int .i64 fl, .string (str tn), .int .i64 tp, .int .i64 tl, .int .i64 pl]
  have hbA := (Below.refl W.heap.size W).alloc (Nat.le_refl _) (.cells #[.int .u8 2, .string (str nm), .string (str tg), .slice a 0 c, .string (str fn), .int .i64 fp, .int .i64 fl, .string (str tn), .int .i64 tp, .int .i64 tl, .int .i64 pl] 59)
  generalize W.alloc (.cells #[.int .u8 2, .string (str nm), .string (str tg), .slice a 0 c, .string (str fn), .int .i64 fp, .int .i64 fl, .string (str tn), .int .i64 tp, .int .i64 tl, .int .i64 pl] 59) = W0 at hK hbA ⊢
  have d0 : W0.cell? ⟨W.heap.size, 0, none⟩ = some (.int .u8 2) := hK.cell (k := 0) rfl
  have d1 : W0.cell? ⟨W.heap.size, 1, none⟩ = some (.string (str nm)) := hK.cell (k := 1) rfl
  have d2 : W0.cell? ⟨W.heap.size, 2, none⟩ = some (.string (str tg)) := hK.cell (k := 2) rfl
  have d3 : W0.cell? ⟨W.heap.size, 3, none⟩ = some (.slice a 0 c) := hK.cell (k := 3) rfl
  have d4 : W0.cell? ⟨W.heap.size, 4, none⟩ = some (.string (str fn)) := hK.cell (k := 4) rfl
  have d5 : W0.cell? ⟨W.heap.size, 5, none⟩ = some (.int .i64 fp) := hK.cell (k := 5) rfl
  have d6 : W0.cell? ⟨W.heap.size, 6, none⟩ = some (.int .i64 fl) := hK.cell (k := 6) rfl
  have d7 : W0.cell? ⟨W.heap.size, 7, none⟩ = some (.string (str tn)) := hK.cell (k := 7) rfl
  have d8 : W0.cell? ⟨W.heap.size, 8, none⟩ = some (.int .i64 tp) := hK.cell (k := 8) rfl
  have d9 : W0.cell? ⟨W.heap.size, 9, none⟩ = some (.int .i64 tl) := hK.cell (k := 9) rfl
  have d10 : W0.cell? ⟨W.heap.size, 10, none⟩ = some (.int .i64 pl) := hK.cell (k := 10) rfl
  have hlt := hK.lt
  have HBA := hidden hbA
  have D3 := hidden d3
  clear hK hbA
  go_wp2
  refine wp_region_said 10 (fun i u v => match i with
      | 0 => v = .slice none 0 0
      | 1 => v = .pointer (some ⟨W.heap.size, 4, none⟩)
      | 2 => v = .agg #[.string (str fn), .int .i64 fp, .int .i64 fl]
      | 3 => v = .string (str (placeT ⟨fn, fp, fl⟩))
      | 4 => v = .string M1
      | 5 => v = .string M2
      | 6 => v = .pointer (some ⟨W.heap.size, 7, none⟩)
      | 7 => v = .agg #[.string (str tn), .int .i64 tp, .int .i64 tl]
      | 8 => v = .string (str (placeT ⟨tn, tp, tl⟩))
      | 9 => v = .string (str HD)
      | _ => True) (by kernel_rfl) (by kernel_rfl) (by kernel_rfl) (by kernel_rfl) ?_ ?_ ?_
  · intro i w v w' h hb
    match i, h with
    | 0, h => exact h
    | 1, h => exact h
    | 2, h => exact h
    | 3, h => exact h
    | 4, h => exact h
    | 5, h => exact h
    | 6, h => exact h
    | 7, h => exact h
    | 8, h => exact h
    | 9, h => exact h
    | _ + 10, _ => trivial
  · intro i o ρ w' hi ho hb hc hf hfr hdep
    have LK : ∀ {a : Addr} {x : Value}, a.block < W0.heap.size → W0.cell? a = some x → w'.cell? a = some x := fun h1 h2 => (hb.cell h1).trans h2
    have k1 := LK hlt d1
    have k4 := LK hlt d4
    have k5 := LK hlt d5
    have k6 := LK hlt d6
    have k7 := LK hlt d7
    have k8 := LK hlt d8
    have k9 := LK hlt d9
    match i, hi with
    | 0, _ =>
      simp only [List.getElem?_toArray, List.getElem?_cons_zero, Option.some.injEq] at ho
      subst ho
      have ts : ρ (.tmp 3) = .slice none 0 0 := hfr 3 (by kernel_rfl)
      simp [go_sem, ts]
      exact ⟨Below.refl _ _, rfl⟩
    | 1, _ =>
      simp only [List.getElem?_toArray, List.getElem?_cons_zero, List.getElem?_cons_succ, Option.some.injEq] at ho
      subst ho
      have ts : ρ (.tmp 1) = .pointer (some ⟨W.heap.size, 0, none⟩) := hfr 1 (by kernel_rfl)
      simp [go_sem, ts]
      exact ⟨Below.refl _ _, rfl⟩
    | 2, _ =>
      simp only [List.getElem?_toArray, List.getElem?_cons_zero, List.getElem?_cons_succ, Option.some.injEq] at ho
      subst ho
      have ts : ρ (.tmp 21) = .pointer (some ⟨W.heap.size, 4, none⟩) := hdep 1 21 (by kernel_rfl) (by kernel_rfl)
      simp [go_sem, ts, k4, k5, k6]
      exact ⟨Below.refl _ _, rfl⟩
    | 3, _ =>
      simp only [List.getElem?_toArray, List.getElem?_cons_zero, List.getElem?_cons_succ, Option.some.injEq] at ho
      subst ho
      have tq : ρ (.tmp 22) = .agg #[.string (str fn), .int .i64 fp, .int .i64 fl] := hdep 2 22 (by kernel_rfl) (by kernel_rfl)
      simp [go_sem, tq, hf]
      exact ⟨rfl, (HPF.out w').mono fun e u h => ⟨_, h.1, h.2, rfl⟩⟩
    | 4, _ =>
      simp only [List.getElem?_toArray, List.getElem?_cons_zero, List.getElem?_cons_succ, Option.some.injEq] at ho
      subst ho
      have tq : ρ (.tmp 23) = .string (str (placeT ⟨fn, fp, fl⟩)) := hdep 3 23 (by kernel_rfl) (by kernel_rfl)
      simp [go_sem, tq, hc, z1, j1]
      exact ⟨Below.refl _ _, rfl⟩
    | 5, _ =>
      simp only [List.getElem?_toArray, List.getElem?_cons_zero, List.getElem?_cons_succ, Option.some.injEq] at ho
      subst ho
      have tq : ρ (.tmp 24) = .string M1 := hdep 4 24 (by kernel_rfl) (by kernel_rfl)
      simp [go_sem, tq, hc, z2, j2]
      exact ⟨Below.refl _ _, rfl⟩
    | 6, _ =>
      simp only [List.getElem?_toArray, List.getElem?_cons_zero, List.getElem?_cons_succ, Option.some.injEq] at ho
      subst ho
      have ts : ρ (.tmp 1) = .pointer (some ⟨W.heap.size, 0, none⟩) := hfr 1 (by kernel_rfl)
      simp [go_sem, ts]
      exact ⟨Below.refl _ _, rfl⟩
    | 7, _ =>
      simp only [List.getElem?_toArray, List.getElem?_cons_zero, List.getElem?_cons_succ, Option.some.injEq] at ho
      subst ho
      have ts : ρ (.tmp 26) = .pointer (some ⟨W.heap.size, 7, none⟩) := hdep 6 26 (by kernel_rfl) (by kernel_rfl)
      simp [go_sem, ts, k7, k8, k9]
      exact ⟨Below.refl _ _, rfl⟩
    | 8, _ =>
      simp only [List.getElem?_toArray, List.getElem?_cons_zero, List.getElem?_cons_succ, Option.some.injEq] at ho
      subst ho
      have tq : ρ (.tmp 27) = .agg #[.string (str tn), .int .i64 tp, .int .i64 tl] := hdep 7 27 (by kernel_rfl) (by kernel_rfl)
      simp [go_sem, tq, hf]
      exact ⟨rfl, (HPT.out w').mono fun e u h => ⟨_, h.1, h.2, rfl⟩⟩
    | 9, _ =>
      simp only [List.getElem?_toArray, List.getElem?_cons_zero, List.getElem?_cons_succ, Option.some.injEq] at ho
      subst ho
      have t1 : ρ (.tmp 25) = .string M2 := hdep 5 25 (by kernel_rfl) (by kernel_rfl)
      have t2 : ρ (.tmp 28) = .string (str (placeT ⟨tn, tp, tl⟩)) := hdep 8 28 (by kernel_rfl) (by kernel_rfl)
      simp [go_sem, t1, t2, z3, j3]
      exact ⟨Below.refl _ _, rfl⟩
  · intro V w9 q9 hS
    have e0 : V 0 = .slice none 0 0 := hS 0 (by decide)
    have e1 : V 1 = .pointer (some ⟨W.heap.size, 4, none⟩) := hS 1 (by decide)
    have e2 : V 2 = .agg #[.string (str fn), .int .i64 fp, .int .i64 fl] := hS 2 (by decide)
    have e3 : V 3 = .string (str (placeT ⟨fn, fp, fl⟩)) := hS 3 (by decide)
    have e4 : V 4 = .string M1 := hS 4 (by decide)
    have e5 : V 5 = .string M2 := hS 5 (by decide)
    have e6 : V 6 = .pointer (some ⟨W.heap.size, 7, none⟩) := hS 6 (by decide)
    have e7 : V 7 = .agg #[.string (str tn), .int .i64 tp, .int .i64 tl] := hS 7 (by decide)
    have e8 : V 8 = .string (str (placeT ⟨tn, tp, tl⟩)) := hS 8 (by decide)
    have e9 : V 9 = .string (str HD) := hS 9 (by decide)
    simp only [List.drop_succ_cons, List.drop_zero, List.take_succ_cons, List.take_zero, puts, e0, e1, e2, e3, e4, e5, e6, e7, e8, e9]
    simp only [Act.put, List.setIfInBounds_toArray, List.set_cons_zero, List.set_cons_succ]
    clear hS e0 e1 e2 e3 e4 e5 e6 e7 e8 e9 V
    have R0 : Hid (RB W0 (.slice none 0 0) [] w9) := ⟨World.ownsRow_nil _ _ _ _, q9⟩
    go_wp2_with (first
      | (at_builtin; refine Lib.wpList_append_own_string _ rfl _ _ 67 9 rfl W0.heap.size 5 i5 Tryz.underlying67 Tryz.underlying9 HJ.out HJ0.out HJ1.out HJ2.out _ ([] : List UInt8).length (Lib.strCells (str ([] : List UInt8))) rfl R0.out.bytes (str HD) rfl (by have := HHL.out; rw [sHD]; simp only [List.length_nil]; unfold maxLen; omega) (by have := HHL.out; rw [sHD]; simp only [List.length_nil]; omega) R0.out.bel.size ?_; intro v1 w1 hown hgrow _; have R1 := hidden (R0.out.strA hown hgrow); have R1 : Hid (RB W0 v1 HD w1) := R1.out; have g3 := cell_keep R1.out.bel D3.out; obtain ⟨va1, vc1, rfl⟩ := R1.out.shape; clear hown hgrow))
    have HHQ : Hid (HD = HD ++ []) := by show _ = _; simp
    have HHT : Hid (HD.length ≤ 110) := by have := HHL.out; show _ ≤ _; omega
    go_loopg [3, 4] 0 (fun gk sv v wr => ∃ (k : Nat) (l : List UInt8) (va : Option Addr) (vc : Nat), k ≤ 0 ∧ gk = 0 - k ∧ v = .int .i64 (k : Int) ∧ sv = .slice va l.length vc ∧ RB W0 (.slice va l.length vc) l wr ∧ l = HD ++ numsT (ns.take k) ∧ l.length ≤ 1048700)
    case atStart => exact ⟨0, HD, va1, vc1, Nat.zero_le _, rfl, rfl, rfl, R1.out, by simp [numsT], by have := HHT.out; omega⟩
    case round =>
      clear R1
      obtain ⟨k, l, va, vc, hk, rfl, rfl, rfl, hR, hl, hl2⟩ := hrel
      have HR := hidden hR
      have HL := hidden hl
      have y3 := cell_keep hR.bel D3.out
      have hlI : (l.length : Int) ≤ 1048700 := by omega
      clear hR hl
      by_cases hlt2 : k < 0 ∧ l.length ≤ 1048576
      · obtain ⟨hlt3, hle⟩ := hlt2
        exact absurd hlt3 (Nat.not_lt_zero _)
      · have hE : Hid (Ext [] (HD ++ numsT ns ++ [59, 10]) (l ++ [59, 10])) := by
          by_cases h1 : 1048576 < l.length
          · exact line_cut HL.out h1
          · have ek : ns.length ≤ k := by omega
            have e1 := HL.out
            rw [List.take_of_length_le ek] at e1
            rw [e1]
            exact line_all
        have HX : Hid (HD ++ [] = HD) := HHQ.out.symm
        by_cases hlt3 : k < 0
        · exact absurd hlt3 (Nat.not_lt_zero _)
        · have hki : ¬ (k : Int) < (0 : Int) := by omega
          go_wp2_with (at_builtin; refine Lib.wpList_append_own_string _ rfl _ _ 67 9 rfl W0.heap.size 5 i5 Tryz.underlying67 Tryz.underlying9 HJ.out HJ0.out HJ1.out HJ2.out _ l.length (Lib.strCells (str l)) rfl HR.out.bytes (str [59, 10]) rfl (by rw [str_size]; simp only [List.length_nil, List.length_cons]; unfold maxLen; omega) (by rw [str_size]; simp only [List.length_nil, List.length_cons]; omega) HR.out.bel.size ?_; intro v4 w4 hown hgrow _; have R4 := hidden (HR.out.strA hown hgrow); clear hown hgrow)
          go_ret
          exact ⟨_, _, rfl, rb_mono R4.out HBA.out, by rw [HFULL.out, HX.out]; exact hE.out, by rw [List.length_append]; simp; omega⟩

set_option maxRecDepth 100000 in
set_option maxHeartbeats 4000000 in
theorem rline_3 (W : World) (x : Itm) (a : Option Addr) (c : Nat) (hx : Neat x) (hr : IntsAt W (.slice a x.nums.length c) x.nums) (hnl : x.nums.length ≤ 1048576) (hk : x.kind = 3) :
    Calls Tryz.prog 31 #[.agg (itC x.kind x.name x.tag (.slice a x.nums.length c) x.frm x.to x.place)] W (LineE W (itemT x)) := by
  have HHD : headT x = [32, 32, 105, 110, 32] ++ x.name ++ [32, 45, 62, 32] ++ placeT x.to := by unfold headT; rw [if_neg (by rw [hk]; decide), if_neg (by rw [hk]; decide), if_pos hk]
  have HWT : withT x = [] := by unfold withT; rw [if_neg (fun h => by rw [hk] at h; exact absurd h.1 (by decide))]
  have HIT : itemT x = headT x ++ withT x ++ numsT x.nums ++ [59, 10] := rfl
  rw [HHD, HWT] at HIT
  rw [HIT]
  clear HIT HHD HWT
  obtain ⟨-, q1, q2, q3, q4, q5, q6, q7⟩ := hx
  have hpf := place_len x.frm q3 q5
  have hpt := place_len x.to q4 q6
  obtain ⟨ki, nm, tg, ns, ⟨fn, fp, fl⟩, ⟨tn, tp, tl⟩, pl⟩ := x
  unfold itC
  simp only at hk q1 q2 q3 q4 q5 q6 q7 hpf hpt hr hnl ⊢
  subst hk
  obtain ⟨HD, hHD⟩ : ∃ HD, HD = [32, 32, 105, 110, 32] ++ nm ++ [32, 45, 62, 32] ++ (placeT ⟨tn, tp, tl⟩) := ⟨_, rfl⟩
  have HHL : Hid (HD.length ≤ 100) := by show _ ≤ _; rw [hHD]; simp; omega
  rw [← hHD]
  have s1b : (str nm : ByteArray).size = (nm).length := str_size _
  have j1 : (⟨#[32, 32, 105, 110, 32]⟩ : ByteArray) ++ str nm = str ([32, 32, 105, 110, 32] ++ nm) := str_app _ _
  have s2a : (str ([32, 32, 105, 110, 32] ++ nm) : ByteArray).size = ([32, 32, 105, 110, 32] ++ nm).length := str_size _
  have j2 : (str ([32, 32, 105, 110, 32] ++ nm) : ByteArray) ++ ⟨#[32, 45, 62, 32]⟩ = str ([32, 32, 105, 110, 32] ++ nm ++ [32, 45, 62, 32]) := str_app _ _
  have s3a : (str ([32, 32, 105, 110, 32] ++ nm ++ [32, 45, 62, 32]) : ByteArray).size = ([32, 32, 105, 110, 32] ++ nm ++ [32, 45, 62, 32]).length := str_size _
  have s3b : (str (placeT ⟨tn, tp, tl⟩) : ByteArray).size = ((placeT ⟨tn, tp, tl⟩)).length := str_size _
  have j3 : (str ([32, 32, 105, 110, 32] ++ nm ++ [32, 45, 62, 32]) : ByteArray) ++ str (placeT ⟨tn, tp, tl⟩) = str ([32, 32, 105, 110, 32] ++ nm ++ [32, 45, 62, 32] ++ (placeT ⟨tn, tp, tl⟩)) := str_app _ _
  rw [← hHD] at j3
  have z1 : ¬ (9223372036854775807 < 5 + (str nm : ByteArray).size) := by rw [s1b]; omega
  have z2 : ¬ (9223372036854775807 < (str ([32, 32, 105, 110, 32] ++ nm)).size + 4) := by rw [s2a]; simp; omega
  have z3 : ¬ (9223372036854775807 < (str ([32, 32, 105, 110, 32] ++ nm ++ [32, 45, 62, 32])).size + (str (placeT ⟨tn, tp, tl⟩) : ByteArray).size) := by rw [s3a, s3b]; simp; omega
  have HPF : Hid (∀ w1, Calls Tryz.prog 55 #[.agg #[.string (str fn), .int .i64 fp, .int .i64 fl]] w1 fun e w' => e = .returned (.string (str (placeT ⟨fn, fp, fl⟩))) ∧ Below w1.heap.size w1 w') := fun w1 => rat_any ⟨fn, fp, fl⟩ w1 q3 q5.1 q5.2
  have HPT : Hid (∀ w1, Calls Tryz.prog 55 #[.agg #[.string (str tn), .int .i64 tp, .int .i64 tl]] w1 fun e w' => e = .returned (.string (str (placeT ⟨tn, tp, tl⟩))) ∧ Below w1.heap.size w1 w') := fun w1 => rat_any ⟨tn, tp, tl⟩ w1 q4 q6.1 q6.2
  have HNS := hidden q7
  have HRW := hidden hr
  obtain ⟨i5, hi5, hy0, hy1, hy2⟩ := info_parts Tryz.info5
  have HJ := hidden hi5
  have HJ0 := hidden hy0
  have HJ1 := hidden hy1
  have HJ2 := hidden hy2
  have sHD := str_size HD
  obtain ⟨FULL, hFULL⟩ : ∃ F, F = HD ++ [] ++ numsT ns ++ [59, 10] := ⟨_, rfl⟩
  rw [← hFULL]
  have HFULL := hidden hFULL
  clear hFULL
  obtain ⟨n, hn⟩ : ∃ n, ns.length = n := ⟨_, rfl⟩
  rw [hn] at HRW hnl ⊢
  have hnI : (n : Int) ≤ 1048576 := by omega
  clear s1b s2a s3a s3b hpf hpt q1 q2 q3 q4 q5 q6 q7 hr hi5 hy0 hy1 hy2 hHD
  generalize str ([32, 32, 105, 110, 32] ++ nm) = M1 at *
  generalize str ([32, 32, 105, 110, 32] ++ nm ++ [32, 45, 62, 32]) = M2 at *
  go_enter Tryz.func31, Tryz.ntmps31
  go_upto_region 2 with fail
  have hK := blk_new 59 W #[.int .u8 3, .string (str nm), .string (str tg), .slice a n c, .string (str fn), .int .i64 fp, .int .i64 fl, .string (str tn), .int .i64 tp, .int .i64 tl, .int .i64 pl]
  have hbA := (Below.refl W.heap.size W).alloc (Nat.le_refl _) (.cells #[.int .u8 3, .string (str nm), .string (str tg), .slice a n c, .string (str fn), .int .i64 fp, .int .i64 fl, .string (str tn), .int .i64 tp, .int .i64 tl, .int .i64 pl] 59)
  generalize W.alloc (.cells #[.int .u8 3, .string (str nm), .string (str tg), .slice a n c, .string (str fn), .int .i64 fp, .int .i64 fl, .string (str tn), .int .i64 tp, .int .i64 tl, .int .i64 pl] 59) = W0 at hK hbA ⊢
  have d0 : W0.cell? ⟨W.heap.size, 0, none⟩ = some (.int .u8 3) := hK.cell (k := 0) rfl
  have d1 : W0.cell? ⟨W.heap.size, 1, none⟩ = some (.string (str nm)) := hK.cell (k := 1) rfl
  have d2 : W0.cell? ⟨W.heap.size, 2, none⟩ = some (.string (str tg)) := hK.cell (k := 2) rfl
  have d3 : W0.cell? ⟨W.heap.size, 3, none⟩ = some (.slice a n c) := hK.cell (k := 3) rfl
  have d4 : W0.cell? ⟨W.heap.size, 4, none⟩ = some (.string (str fn)) := hK.cell (k := 4) rfl
  have d5 : W0.cell? ⟨W.heap.size, 5, none⟩ = some (.int .i64 fp) := hK.cell (k := 5) rfl
  have d6 : W0.cell? ⟨W.heap.size, 6, none⟩ = some (.int .i64 fl) := hK.cell (k := 6) rfl
  have d7 : W0.cell? ⟨W.heap.size, 7, none⟩ = some (.string (str tn)) := hK.cell (k := 7) rfl
  have d8 : W0.cell? ⟨W.heap.size, 8, none⟩ = some (.int .i64 tp) := hK.cell (k := 8) rfl
  have d9 : W0.cell? ⟨W.heap.size, 9, none⟩ = some (.int .i64 tl) := hK.cell (k := 9) rfl
  have d10 : W0.cell? ⟨W.heap.size, 10, none⟩ = some (.int .i64 pl) := hK.cell (k := 10) rfl
  have hlt := hK.lt
  have HBA := hidden hbA
  have D3 := hidden d3
  clear hK hbA
  go_wp2
  refine wp_region_said 9 (fun i u v => match i with
      | 0 => v = .slice none 0 0
      | 1 => v = .pointer (some ⟨W.heap.size, 1, none⟩)
      | 2 => v = .string (str nm)
      | 3 => v = .string M1
      | 4 => v = .string M2
      | 5 => v = .pointer (some ⟨W.heap.size, 7, none⟩)
      | 6 => v = .agg #[.string (str tn), .int .i64 tp, .int .i64 tl]
      | 7 => v = .string (str (placeT ⟨tn, tp, tl⟩))
      | 8 => v = .string (str HD)
      | _ => True) (by kernel_rfl) (by kernel_rfl) (by kernel_rfl) (by kernel_rfl) ?_ ?_ ?_
  · intro i w v w' h hb
    match i, h with
    | 0, h => exact h
    | 1, h => exact h
    | 2, h => exact h
    | 3, h => exact h
    | 4, h => exact h
    | 5, h => exact h
    | 6, h => exact h
    | 7, h => exact h
    | 8, h => exact h
    | _ + 9, _ => trivial
  · intro i o ρ w' hi ho hb hc hf hfr hdep
    have LK : ∀ {a : Addr} {x : Value}, a.block < W0.heap.size → W0.cell? a = some x → w'.cell? a = some x := fun h1 h2 => (hb.cell h1).trans h2
    have k1 := LK hlt d1
    have k4 := LK hlt d4
    have k5 := LK hlt d5
    have k6 := LK hlt d6
    have k7 := LK hlt d7
    have k8 := LK hlt d8
    have k9 := LK hlt d9
    match i, hi with
    | 0, _ =>
      simp only [List.getElem?_toArray, List.getElem?_cons_zero, Option.some.injEq] at ho
      subst ho
      have ts : ρ (.tmp 3) = .slice none 0 0 := hfr 3 (by kernel_rfl)
      simp [go_sem, ts]
      exact ⟨Below.refl _ _, rfl⟩
    | 1, _ =>
      simp only [List.getElem?_toArray, List.getElem?_cons_zero, List.getElem?_cons_succ, Option.some.injEq] at ho
      subst ho
      have ts : ρ (.tmp 1) = .pointer (some ⟨W.heap.size, 0, none⟩) := hfr 1 (by kernel_rfl)
      simp [go_sem, ts]
      exact ⟨Below.refl _ _, rfl⟩
    | 2, _ =>
      simp only [List.getElem?_toArray, List.getElem?_cons_zero, List.getElem?_cons_succ, Option.some.injEq] at ho
      subst ho
      have ts : ρ (.tmp 40) = .pointer (some ⟨W.heap.size, 1, none⟩) := hdep 1 40 (by kernel_rfl) (by kernel_rfl)
      simp [go_sem, ts, k1]
      exact ⟨Below.refl _ _, rfl⟩
    | 3, _ =>
      simp only [List.getElem?_toArray, List.getElem?_cons_zero, List.getElem?_cons_succ, Option.some.injEq] at ho
      subst ho
      have tq : ρ (.tmp 41) = .string (str nm) := hdep 2 41 (by kernel_rfl) (by kernel_rfl)
      simp [go_sem, tq, hc, z1, j1]
      exact ⟨Below.refl _ _, rfl⟩
    | 4, _ =>
      simp only [List.getElem?_toArray, List.getElem?_cons_zero, List.getElem?_cons_succ, Option.some.injEq] at ho
      subst ho
      have tq : ρ (.tmp 42) = .string M1 := hdep 3 42 (by kernel_rfl) (by kernel_rfl)
      simp [go_sem, tq, hc, z2, j2]
      exact ⟨Below.refl _ _, rfl⟩
    | 5, _ =>
      simp only [List.getElem?_toArray, List.getElem?_cons_zero, List.getElem?_cons_succ, Option.some.injEq] at ho
      subst ho
      have ts : ρ (.tmp 1) = .pointer (some ⟨W.heap.size, 0, none⟩) := hfr 1 (by kernel_rfl)
      simp [go_sem, ts]
      exact ⟨Below.refl _ _, rfl⟩
    | 6, _ =>
      simp only [List.getElem?_toArray, List.getElem?_cons_zero, List.getElem?_cons_succ, Option.some.injEq] at ho
      subst ho
      have ts : ρ (.tmp 44) = .pointer (some ⟨W.heap.size, 7, none⟩) := hdep 5 44 (by kernel_rfl) (by kernel_rfl)
      simp [go_sem, ts, k7, k8, k9]
      exact ⟨Below.refl _ _, rfl⟩
    | 7, _ =>
      simp only [List.getElem?_toArray, List.getElem?_cons_zero, List.getElem?_cons_succ, Option.some.injEq] at ho
      subst ho
      have tq : ρ (.tmp 45) = .agg #[.string (str tn), .int .i64 tp, .int .i64 tl] := hdep 6 45 (by kernel_rfl) (by kernel_rfl)
      simp [go_sem, tq, hf]
      exact ⟨rfl, (HPT.out w').mono fun e u h => ⟨_, h.1, h.2, rfl⟩⟩
    | 8, _ =>
      simp only [List.getElem?_toArray, List.getElem?_cons_zero, List.getElem?_cons_succ, Option.some.injEq] at ho
      subst ho
      have t1 : ρ (.tmp 43) = .string M2 := hdep 4 43 (by kernel_rfl) (by kernel_rfl)
      have t2 : ρ (.tmp 46) = .string (str (placeT ⟨tn, tp, tl⟩)) := hdep 7 46 (by kernel_rfl) (by kernel_rfl)
      simp [go_sem, t1, t2, z3, j3]
      exact ⟨Below.refl _ _, rfl⟩
  · intro V w9 q9 hS
    have e0 : V 0 = .slice none 0 0 := hS 0 (by decide)
    have e1 : V 1 = .pointer (some ⟨W.heap.size, 1, none⟩) := hS 1 (by decide)
    have e2 : V 2 = .string (str nm) := hS 2 (by decide)
    have e3 : V 3 = .string M1 := hS 3 (by decide)
    have e4 : V 4 = .string M2 := hS 4 (by decide)
    have e5 : V 5 = .pointer (some ⟨W.heap.size, 7, none⟩) := hS 5 (by decide)
    have e6 : V 6 = .agg #[.string (str tn), .int .i64 tp, .int .i64 tl] := hS 6 (by decide)
    have e7 : V 7 = .string (str (placeT ⟨tn, tp, tl⟩)) := hS 7 (by decide)
    have e8 : V 8 = .string (str HD) := hS 8 (by decide)
    simp only [List.drop_succ_cons, List.drop_zero, List.take_succ_cons, List.take_zero, puts, e0, e1, e2, e3, e4, e5, e6, e7, e8]
    simp only [Act.put, List.setIfInBounds_toArray, List.set_cons_zero, List.set_cons_succ]
    clear hS e0 e1 e2 e3 e4 e5 e6 e7 e8 V
    have R0 : Hid (RB W0 (.slice none 0 0) [] w9) := ⟨World.ownsRow_nil _ _ _ _, q9⟩
    go_wp2_with (first
      | (at_builtin; refine Lib.wpList_append_own_string _ rfl _ _ 67 9 rfl W0.heap.size 5 i5 Tryz.underlying67 Tryz.underlying9 HJ.out HJ0.out HJ1.out HJ2.out _ ([] : List UInt8).length (Lib.strCells (str ([] : List UInt8))) rfl R0.out.bytes (str HD) rfl (by have := HHL.out; rw [sHD]; simp only [List.length_nil]; unfold maxLen; omega) (by have := HHL.out; rw [sHD]; simp only [List.length_nil]; omega) R0.out.bel.size ?_; intro v1 w1 hown hgrow _; have R1 := hidden (R0.out.strA hown hgrow); have R1 : Hid (RB W0 v1 HD w1) := R1.out; have g3 := cell_keep R1.out.bel D3.out; obtain ⟨va1, vc1, rfl⟩ := R1.out.shape; clear hown hgrow))
    have HHQ : Hid (HD = HD ++ []) := by show _ = _; simp
    have HHT : Hid (HD.length ≤ 110) := by have := HHL.out; show _ ≤ _; omega
    go_loopg [3, 4] n (fun gk sv v wr => ∃ (k : Nat) (l : List UInt8) (va : Option Addr) (vc : Nat), k ≤ n ∧ gk = n - k ∧ v = .int .i64 (k : Int) ∧ sv = .slice va l.length vc ∧ RB W0 (.slice va l.length vc) l wr ∧ l = HD ++ numsT (ns.take k) ∧ l.length ≤ 1048700)
    case atStart => exact ⟨0, HD, va1, vc1, Nat.zero_le _, rfl, rfl, rfl, R1.out, by simp [numsT], by have := HHT.out; omega⟩
    case round =>
      clear R1
      obtain ⟨k, l, va, vc, hk, rfl, rfl, rfl, hR, hl, hl2⟩ := hrel
      have HR := hidden hR
      have HL := hidden hl
      have y3 := cell_keep hR.bel D3.out
      have hlI : (l.length : Int) ≤ 1048700 := by omega
      clear hR hl
      by_cases hlt2 : k < n ∧ l.length ≤ 1048576
      · obtain ⟨hlt3, hle⟩ := hlt2
        have hki : (k : Int) < (n : Int) := by omega
        have hli : (l.length : Int) ≤ 1048576 := by omega
        obtain ⟨ra, rc, re, hrow⟩ := HRW.out.below (HBA.out.trans (HR.out.bel.mono HBA.out.size))
        simp only [Value.slice.injEq] at re
        obtain ⟨rfl, -, rfl⟩ := re
        rcases hrow with e | ⟨g, off, rfl, hc⟩
        · rw [e] at hn; simp at hn; omega
        have hcell := hc k (by omega)
        have hsm : Small (ns.getD k 0) := HNS.out _ (by rw [List.getD_eq_getElem?_getD, List.getElem?_eq_getElem (by omega)]; exact List.getElem_mem _)
        have HTK := hidden (take_nums (ns := ns) (k := k) (by omega))
        clear hc
        generalize ns.getD k 0 = x at *
        have HDG : Hid (∀ w1, Calls Tryz.prog 56 #[.int .i64 x] w1 fun e w' => e = .returned (.string (str (Lib.itoa x))) ∧ Below w1.heap.size w1 w') := fun w1 => by rw [itoa_intS]; exact digits_any x w1 (fits_of hsm.1)
        have hIL := hsm.2
        have s1 : (ByteArray.mk #[32]).size = 1 := rfl
        have s2 := str_size (Lib.itoa x)
        have l1 : ¬ (9223372036854775807 < 1 + (Lib.itoa x).length) := by omega
        have jj : ByteArray.mk #[32] ++ str (Lib.itoa x) = str (numT x) := str_app [32] (Lib.itoa x)
        have HNL : Hid ((numT x).length ≤ 21) := by show (32 :: Lib.itoa x).length ≤ 21; rw [List.length_cons]; omega
        have sN := str_size (numT x)
        clear hsm hIL
        go_wp2_with (first
          | (at_builtin; refine Lib.wpList_append_own_string _ rfl _ _ 67 9 rfl W0.heap.size 5 i5 Tryz.underlying67 Tryz.underlying9 HJ.out HJ0.out HJ1.out HJ2.out _ l.length (Lib.strCells (str l)) rfl RD.out.bytes (str (numT x)) rfl (by have := HNL.out; rw [sN]; unfold maxLen; omega) (by have := HNL.out; rw [sN]; omega) RD.out.bel.size ?_; intro v4 w4 hown hgrow _; have R4 := hidden (RD.out.strA hown hgrow); obtain ⟨va4, vc4, rfl⟩ := R4.out.shape; clear hown hgrow)
          | (go_at_call 56; (with_reducible refine (HDG.out _).mono ?_); rintro e w3 ⟨rfl, hb3⟩; have RD := hidden (HR.out.below hb3); clear hb3))
        go_roundg (n - (k + 1))
        case measure => omega
        case rel => exact ⟨k + 1, l ++ numT x, va4, vc4, by omega, rfl, by go_num, by first | rfl | (simp only [List.length_append]), R4.out, by rw [HTK.out, ← List.append_assoc, ← HL.out], by have := HNL.out; rw [List.length_append]; omega⟩
      · have hE : Hid (Ext [] (HD ++ numsT ns ++ [59, 10]) (l ++ [59, 10])) := by
          by_cases h1 : 1048576 < l.length
          · exact line_cut HL.out h1
          · have ek : ns.length ≤ k := by omega
            have e1 := HL.out
            rw [List.take_of_length_le ek] at e1
            rw [e1]
            exact line_all
        have HX : Hid (HD ++ [] = HD) := HHQ.out.symm
        by_cases hlt3 : k < n
        · have hki : (k : Int) < (n : Int) := by omega
          have hli : ¬ (l.length : Int) ≤ 1048576 := by omega
          go_wp2_with (at_builtin; refine Lib.wpList_append_own_string _ rfl _ _ 67 9 rfl W0.heap.size 5 i5 Tryz.underlying67 Tryz.underlying9 HJ.out HJ0.out HJ1.out HJ2.out _ l.length (Lib.strCells (str l)) rfl HR.out.bytes (str [59, 10]) rfl (by rw [str_size]; simp only [List.length_nil, List.length_cons]; unfold maxLen; omega) (by rw [str_size]; simp only [List.length_nil, List.length_cons]; omega) HR.out.bel.size ?_; intro v4 w4 hown hgrow _; have R4 := hidden (HR.out.strA hown hgrow); clear hown hgrow)
          go_ret
          exact ⟨_, _, rfl, rb_mono R4.out HBA.out, by rw [HFULL.out, HX.out]; exact hE.out, by rw [List.length_append]; simp; omega⟩
        · have hki : ¬ (k : Int) < (n : Int) := by omega
          go_wp2_with (at_builtin; refine Lib.wpList_append_own_string _ rfl _ _ 67 9 rfl W0.heap.size 5 i5 Tryz.underlying67 Tryz.underlying9 HJ.out HJ0.out HJ1.out HJ2.out _ l.length (Lib.strCells (str l)) rfl HR.out.bytes (str [59, 10]) rfl (by rw [str_size]; simp only [List.length_nil, List.length_cons]; unfold maxLen; omega) (by rw [str_size]; simp only [List.length_nil, List.length_cons]; omega) HR.out.bel.size ?_; intro v4 w4 hown hgrow _; have R4 := hidden (HR.out.strA hown hgrow); clear hown hgrow)
          go_ret
          exact ⟨_, _, rfl, rb_mono R4.out HBA.out, by rw [HFULL.out, HX.out]; exact hE.out, by rw [List.length_append]; simp; omega⟩

set_option maxRecDepth 100000 in
set_option maxHeartbeats 4000000 in
theorem rline_4 (W : World) (x : Itm) (a : Option Addr) (c : Nat) (hx : Neat x) (hr : IntsAt W (.slice a x.nums.length c) x.nums) (hnl : x.nums.length ≤ 1048576) (hk : x.kind = 4) :
    Calls Tryz.prog 31 #[.agg (itC x.kind x.name x.tag (.slice a x.nums.length c) x.frm x.to x.place)] W (LineE W (itemT x)) := by
  have HHD : headT x = [32, 32, 111, 117, 116, 32] ++ placeT x.frm ++ [32, 45, 62, 32] ++ x.name := by unfold headT; rw [if_neg (by rw [hk]; decide), if_neg (by rw [hk]; decide), if_neg (by rw [hk]; decide)]
  have HWT : withT x = [] := by unfold withT; rw [if_neg (fun h => by rw [hk] at h; exact absurd h.1 (by decide))]
  have HIT : itemT x = headT x ++ withT x ++ numsT x.nums ++ [59, 10] := rfl
  rw [HHD, HWT] at HIT
  rw [HIT]
  clear HIT HHD HWT
  obtain ⟨-, q1, q2, q3, q4, q5, q6, q7⟩ := hx
  have hpf := place_len x.frm q3 q5
  have hpt := place_len x.to q4 q6
  obtain ⟨ki, nm, tg, ns, ⟨fn, fp, fl⟩, ⟨tn, tp, tl⟩, pl⟩ := x
  unfold itC
  simp only at hk q1 q2 q3 q4 q5 q6 q7 hpf hpt hr hnl ⊢
  subst hk
  obtain ⟨HD, hHD⟩ : ∃ HD, HD = [32, 32, 111, 117, 116, 32] ++ (placeT ⟨fn, fp, fl⟩) ++ [32, 45, 62, 32] ++ nm := ⟨_, rfl⟩
  have HHL : Hid (HD.length ≤ 100) := by show _ ≤ _; rw [hHD]; simp; omega
  rw [← hHD]
  have s1b : (str (placeT ⟨fn, fp, fl⟩) : ByteArray).size = ((placeT ⟨fn, fp, fl⟩)).length := str_size _
  have j1 : (⟨#[32, 32, 111, 117, 116, 32]⟩ : ByteArray) ++ str (placeT ⟨fn, fp, fl⟩) = str ([32, 32, 111, 117, 116, 32] ++ (placeT ⟨fn, fp, fl⟩)) := str_app _ _
  have s2a : (str ([32, 32, 111, 117, 116, 32] ++ (placeT ⟨fn, fp, fl⟩)) : ByteArray).size = ([32, 32, 111, 117, 116, 32] ++ (placeT ⟨fn, fp, fl⟩)).length := str_size _
  have j2 : (str ([32, 32, 111, 117, 116, 32] ++ (placeT ⟨fn, fp, fl⟩)) : ByteArray) ++ ⟨#[32, 45, 62, 32]⟩ = str ([32, 32, 111, 117, 116, 32] ++ (placeT ⟨fn, fp, fl⟩) ++ [32, 45, 62, 32]) := str_app _ _
  have s3a : (str ([32, 32, 111, 117, 116, 32] ++ (placeT ⟨fn, fp, fl⟩) ++ [32, 45, 62, 32]) : ByteArray).size = ([32, 32, 111, 117, 116, 32] ++ (placeT ⟨fn, fp, fl⟩) ++ [32, 45, 62, 32]).length := str_size _
  have s3b : (str nm : ByteArray).size = (nm).length := str_size _
  have j3 : (str ([32, 32, 111, 117, 116, 32] ++ (placeT ⟨fn, fp, fl⟩) ++ [32, 45, 62, 32]) : ByteArray) ++ str nm = str ([32, 32, 111, 117, 116, 32] ++ (placeT ⟨fn, fp, fl⟩) ++ [32, 45, 62, 32] ++ nm) := str_app _ _
  rw [← hHD] at j3
  have z1 : ¬ (9223372036854775807 < 6 + (str (placeT ⟨fn, fp, fl⟩) : ByteArray).size) := by rw [s1b]; omega
  have z2 : ¬ (9223372036854775807 < (str ([32, 32, 111, 117, 116, 32] ++ (placeT ⟨fn, fp, fl⟩))).size + 4) := by rw [s2a]; simp; omega
  have z3 : ¬ (9223372036854775807 < (str ([32, 32, 111, 117, 116, 32] ++ (placeT ⟨fn, fp, fl⟩) ++ [32, 45, 62, 32])).size + (str nm : ByteArray).size) := by rw [s3a, s3b]; simp; omega
  have HPF : Hid (∀ w1, Calls Tryz.prog 55 #[.agg #[.string (str fn), .int .i64 fp, .int .i64 fl]] w1 fun e w' => e = .returned (.string (str (placeT ⟨fn, fp, fl⟩))) ∧ Below w1.heap.size w1 w') := fun w1 => rat_any ⟨fn, fp, fl⟩ w1 q3 q5.1 q5.2
  have HPT : Hid (∀ w1, Calls Tryz.prog 55 #[.agg #[.string (str tn), .int .i64 tp, .int .i64 tl]] w1 fun e w' => e = .returned (.string (str (placeT ⟨tn, tp, tl⟩))) ∧ Below w1.heap.size w1 w') := fun w1 => rat_any ⟨tn, tp, tl⟩ w1 q4 q6.1 q6.2
  have HNS := hidden q7
  have HRW := hidden hr
  obtain ⟨i5, hi5, hy0, hy1, hy2⟩ := info_parts Tryz.info5
  have HJ := hidden hi5
  have HJ0 := hidden hy0
  have HJ1 := hidden hy1
  have HJ2 := hidden hy2
  have sHD := str_size HD
  obtain ⟨FULL, hFULL⟩ : ∃ F, F = HD ++ [] ++ numsT ns ++ [59, 10] := ⟨_, rfl⟩
  rw [← hFULL]
  have HFULL := hidden hFULL
  clear hFULL
  obtain ⟨n, hn⟩ : ∃ n, ns.length = n := ⟨_, rfl⟩
  rw [hn] at HRW hnl ⊢
  have hnI : (n : Int) ≤ 1048576 := by omega
  clear s1b s2a s3a s3b hpf hpt q1 q2 q3 q4 q5 q6 q7 hr hi5 hy0 hy1 hy2 hHD
  generalize str ([32, 32, 111, 117, 116, 32] ++ (placeT ⟨fn, fp, fl⟩)) = M1 at *
  generalize str ([32, 32, 111, 117, 116, 32] ++ (placeT ⟨fn, fp, fl⟩) ++ [32, 45, 62, 32]) = M2 at *
  go_enter Tryz.func31, Tryz.ntmps31
  go_upto_region 2 with fail
  have hK := blk_new 59 W #[.int .u8 4, .string (str nm), .string (str tg), .slice a n c, .string (str fn), .int .i64 fp, .int .i64 fl, .string (str tn), .int .i64 tp, .int .i64 tl, .int .i64 pl]
  have hbA := (Below.refl W.heap.size W).alloc (Nat.le_refl _) (.cells #[.int .u8 4, .string (str nm), .string (str tg), .slice a n c, .string (str fn), .int .i64 fp, .int .i64 fl, .string (str tn), .int .i64 tp, .int .i64 tl, .int .i64 pl] 59)
  generalize W.alloc (.cells #[.int .u8 4, .string (str nm), .string (str tg), .slice a n c, .string (str fn), .int .i64 fp, .int .i64 fl, .string (str tn), .int .i64 tp, .int .i64 tl, .int .i64 pl] 59) = W0 at hK hbA ⊢
  have d0 : W0.cell? ⟨W.heap.size, 0, none⟩ = some (.int .u8 4) := hK.cell (k := 0) rfl
  have d1 : W0.cell? ⟨W.heap.size, 1, none⟩ = some (.string (str nm)) := hK.cell (k := 1) rfl
  have d2 : W0.cell? ⟨W.heap.size, 2, none⟩ = some (.string (str tg)) := hK.cell (k := 2) rfl
  have d3 : W0.cell? ⟨W.heap.size, 3, none⟩ = some (.slice a n c) := hK.cell (k := 3) rfl
  have d4 : W0.cell? ⟨W.heap.size, 4, none⟩ = some (.string (str fn)) := hK.cell (k := 4) rfl
  have d5 : W0.cell? ⟨W.heap.size, 5, none⟩ = some (.int .i64 fp) := hK.cell (k := 5) rfl
  have d6 : W0.cell? ⟨W.heap.size, 6, none⟩ = some (.int .i64 fl) := hK.cell (k := 6) rfl
  have d7 : W0.cell? ⟨W.heap.size, 7, none⟩ = some (.string (str tn)) := hK.cell (k := 7) rfl
  have d8 : W0.cell? ⟨W.heap.size, 8, none⟩ = some (.int .i64 tp) := hK.cell (k := 8) rfl
  have d9 : W0.cell? ⟨W.heap.size, 9, none⟩ = some (.int .i64 tl) := hK.cell (k := 9) rfl
  have d10 : W0.cell? ⟨W.heap.size, 10, none⟩ = some (.int .i64 pl) := hK.cell (k := 10) rfl
  have hlt := hK.lt
  have HBA := hidden hbA
  have D3 := hidden d3
  clear hK hbA
  go_wp2
  refine wp_region_said 9 (fun i u v => match i with
      | 0 => v = .slice none 0 0
      | 1 => v = .pointer (some ⟨W.heap.size, 4, none⟩)
      | 2 => v = .agg #[.string (str fn), .int .i64 fp, .int .i64 fl]
      | 3 => v = .string (str (placeT ⟨fn, fp, fl⟩))
      | 4 => v = .string M1
      | 5 => v = .string M2
      | 6 => v = .pointer (some ⟨W.heap.size, 1, none⟩)
      | 7 => v = .string (str nm)
      | 8 => v = .string (str HD)
      | _ => True) (by kernel_rfl) (by kernel_rfl) (by kernel_rfl) (by kernel_rfl) ?_ ?_ ?_
  · intro i w v w' h hb
    match i, h with
    | 0, h => exact h
    | 1, h => exact h
    | 2, h => exact h
    | 3, h => exact h
    | 4, h => exact h
    | 5, h => exact h
    | 6, h => exact h
    | 7, h => exact h
    | 8, h => exact h
    | _ + 9, _ => trivial
  · intro i o ρ w' hi ho hb hc hf hfr hdep
    have LK : ∀ {a : Addr} {x : Value}, a.block < W0.heap.size → W0.cell? a = some x → w'.cell? a = some x := fun h1 h2 => (hb.cell h1).trans h2
    have k1 := LK hlt d1
    have k4 := LK hlt d4
    have k5 := LK hlt d5
    have k6 := LK hlt d6
    have k7 := LK hlt d7
    have k8 := LK hlt d8
    have k9 := LK hlt d9
    match i, hi with
    | 0, _ =>
      simp only [List.getElem?_toArray, List.getElem?_cons_zero, Option.some.injEq] at ho
      subst ho
      have ts : ρ (.tmp 3) = .slice none 0 0 := hfr 3 (by kernel_rfl)
      simp [go_sem, ts]
      exact ⟨Below.refl _ _, rfl⟩
    | 1, _ =>
      simp only [List.getElem?_toArray, List.getElem?_cons_zero, List.getElem?_cons_succ, Option.some.injEq] at ho
      subst ho
      have ts : ρ (.tmp 1) = .pointer (some ⟨W.heap.size, 0, none⟩) := hfr 1 (by kernel_rfl)
      simp [go_sem, ts]
      exact ⟨Below.refl _ _, rfl⟩
    | 2, _ =>
      simp only [List.getElem?_toArray, List.getElem?_cons_zero, List.getElem?_cons_succ, Option.some.injEq] at ho
      subst ho
      have ts : ρ (.tmp 52) = .pointer (some ⟨W.heap.size, 4, none⟩) := hdep 1 52 (by kernel_rfl) (by kernel_rfl)
      simp [go_sem, ts, k4, k5, k6]
      exact ⟨Below.refl _ _, rfl⟩
    | 3, _ =>
      simp only [List.getElem?_toArray, List.getElem?_cons_zero, List.getElem?_cons_succ, Option.some.injEq] at ho
      subst ho
      have tq : ρ (.tmp 53) = .agg #[.string (str fn), .int .i64 fp, .int .i64 fl] := hdep 2 53 (by kernel_rfl) (by kernel_rfl)
      simp [go_sem, tq, hf]
      exact ⟨rfl, (HPF.out w').mono fun e u h => ⟨_, h.1, h.2, rfl⟩⟩
    | 4, _ =>
      simp only [List.getElem?_toArray, List.getElem?_cons_zero, List.getElem?_cons_succ, Option.some.injEq] at ho
      subst ho
      have tq : ρ (.tmp 54) = .string (str (placeT ⟨fn, fp, fl⟩)) := hdep 3 54 (by kernel_rfl) (by kernel_rfl)
      simp [go_sem, tq, hc, z1, j1]
      exact ⟨Below.refl _ _, rfl⟩
    | 5, _ =>
      simp only [List.getElem?_toArray, List.getElem?_cons_zero, List.getElem?_cons_succ, Option.some.injEq] at ho
      subst ho
      have tq : ρ (.tmp 55) = .string M1 := hdep 4 55 (by kernel_rfl) (by kernel_rfl)
      simp [go_sem, tq, hc, z2, j2]
      exact ⟨Below.refl _ _, rfl⟩
    | 6, _ =>
      simp only [List.getElem?_toArray, List.getElem?_cons_zero, List.getElem?_cons_succ, Option.some.injEq] at ho
      subst ho
      have ts : ρ (.tmp 1) = .pointer (some ⟨W.heap.size, 0, none⟩) := hfr 1 (by kernel_rfl)
      simp [go_sem, ts]
      exact ⟨Below.refl _ _, rfl⟩
    | 7, _ =>
      simp only [List.getElem?_toArray, List.getElem?_cons_zero, List.getElem?_cons_succ, Option.some.injEq] at ho
      subst ho
      have ts : ρ (.tmp 57) = .pointer (some ⟨W.heap.size, 1, none⟩) := hdep 6 57 (by kernel_rfl) (by kernel_rfl)
      simp [go_sem, ts, k1]
      exact ⟨Below.refl _ _, rfl⟩
    | 8, _ =>
      simp only [List.getElem?_toArray, List.getElem?_cons_zero, List.getElem?_cons_succ, Option.some.injEq] at ho
      subst ho
      have t1 : ρ (.tmp 56) = .string M2 := hdep 5 56 (by kernel_rfl) (by kernel_rfl)
      have t2 : ρ (.tmp 58) = .string (str nm) := hdep 7 58 (by kernel_rfl) (by kernel_rfl)
      simp [go_sem, t1, t2, z3, j3]
      exact ⟨Below.refl _ _, rfl⟩
  · intro V w9 q9 hS
    have e0 : V 0 = .slice none 0 0 := hS 0 (by decide)
    have e1 : V 1 = .pointer (some ⟨W.heap.size, 4, none⟩) := hS 1 (by decide)
    have e2 : V 2 = .agg #[.string (str fn), .int .i64 fp, .int .i64 fl] := hS 2 (by decide)
    have e3 : V 3 = .string (str (placeT ⟨fn, fp, fl⟩)) := hS 3 (by decide)
    have e4 : V 4 = .string M1 := hS 4 (by decide)
    have e5 : V 5 = .string M2 := hS 5 (by decide)
    have e6 : V 6 = .pointer (some ⟨W.heap.size, 1, none⟩) := hS 6 (by decide)
    have e7 : V 7 = .string (str nm) := hS 7 (by decide)
    have e8 : V 8 = .string (str HD) := hS 8 (by decide)
    simp only [List.drop_succ_cons, List.drop_zero, List.take_succ_cons, List.take_zero, puts, e0, e1, e2, e3, e4, e5, e6, e7, e8]
    simp only [Act.put, List.setIfInBounds_toArray, List.set_cons_zero, List.set_cons_succ]
    clear hS e0 e1 e2 e3 e4 e5 e6 e7 e8 V
    have R0 : Hid (RB W0 (.slice none 0 0) [] w9) := ⟨World.ownsRow_nil _ _ _ _, q9⟩
    go_wp2_with (first
      | (at_builtin; refine Lib.wpList_append_own_string _ rfl _ _ 67 9 rfl W0.heap.size 5 i5 Tryz.underlying67 Tryz.underlying9 HJ.out HJ0.out HJ1.out HJ2.out _ ([] : List UInt8).length (Lib.strCells (str ([] : List UInt8))) rfl R0.out.bytes (str HD) rfl (by have := HHL.out; rw [sHD]; simp only [List.length_nil]; unfold maxLen; omega) (by have := HHL.out; rw [sHD]; simp only [List.length_nil]; omega) R0.out.bel.size ?_; intro v1 w1 hown hgrow _; have R1 := hidden (R0.out.strA hown hgrow); have R1 : Hid (RB W0 v1 HD w1) := R1.out; have g3 := cell_keep R1.out.bel D3.out; obtain ⟨va1, vc1, rfl⟩ := R1.out.shape; clear hown hgrow))
    have HHQ : Hid (HD = HD ++ []) := by show _ = _; simp
    have HHT : Hid (HD.length ≤ 110) := by have := HHL.out; show _ ≤ _; omega
    go_loopg [3, 4] n (fun gk sv v wr => ∃ (k : Nat) (l : List UInt8) (va : Option Addr) (vc : Nat), k ≤ n ∧ gk = n - k ∧ v = .int .i64 (k : Int) ∧ sv = .slice va l.length vc ∧ RB W0 (.slice va l.length vc) l wr ∧ l = HD ++ numsT (ns.take k) ∧ l.length ≤ 1048700)
    case atStart => exact ⟨0, HD, va1, vc1, Nat.zero_le _, rfl, rfl, rfl, R1.out, by simp [numsT], by have := HHT.out; omega⟩
    case round =>
      clear R1
      obtain ⟨k, l, va, vc, hk, rfl, rfl, rfl, hR, hl, hl2⟩ := hrel
      have HR := hidden hR
      have HL := hidden hl
      have y3 := cell_keep hR.bel D3.out
      have hlI : (l.length : Int) ≤ 1048700 := by omega
      clear hR hl
      by_cases hlt2 : k < n ∧ l.length ≤ 1048576
      · obtain ⟨hlt3, hle⟩ := hlt2
        have hki : (k : Int) < (n : Int) := by omega
        have hli : (l.length : Int) ≤ 1048576 := by omega
        obtain ⟨ra, rc, re, hrow⟩ := HRW.out.below (HBA.out.trans (HR.out.bel.mono HBA.out.size))
        simp only [Value.slice.injEq] at re
        obtain ⟨rfl, -, rfl⟩ := re
        rcases hrow with e | ⟨g, off, rfl, hc⟩
        · rw [e] at hn; simp at hn; omega
        have hcell := hc k (by omega)
        have hsm : Small (ns.getD k 0) := HNS.out _ (by rw [List.getD_eq_getElem?_getD, List.getElem?_eq_getElem (by omega)]; exact List.getElem_mem _)
        have HTK := hidden (take_nums (ns := ns) (k := k) (by omega))
        clear hc
        generalize ns.getD k 0 = x at *
        have HDG : Hid (∀ w1, Calls Tryz.prog 56 #[.int .i64 x] w1 fun e w' => e = .returned (.string (str (Lib.itoa x))) ∧ Below w1.heap.size w1 w') := fun w1 => by rw [itoa_intS]; exact digits_any x w1 (fits_of hsm.1)
        have hIL := hsm.2
        have s1 : (ByteArray.mk #[32]).size = 1 := rfl
        have s2 := str_size (Lib.itoa x)
        have l1 : ¬ (9223372036854775807 < 1 + (Lib.itoa x).length) := by omega
        have jj : ByteArray.mk #[32] ++ str (Lib.itoa x) = str (numT x) := str_app [32] (Lib.itoa x)
        have HNL : Hid ((numT x).length ≤ 21) := by show (32 :: Lib.itoa x).length ≤ 21; rw [List.length_cons]; omega
        have sN := str_size (numT x)
        clear hsm hIL
        go_wp2_with (first
          | (at_builtin; refine Lib.wpList_append_own_string _ rfl _ _ 67 9 rfl W0.heap.size 5 i5 Tryz.underlying67 Tryz.underlying9 HJ.out HJ0.out HJ1.out HJ2.out _ l.length (Lib.strCells (str l)) rfl RD.out.bytes (str (numT x)) rfl (by have := HNL.out; rw [sN]; unfold maxLen; omega) (by have := HNL.out; rw [sN]; omega) RD.out.bel.size ?_; intro v4 w4 hown hgrow _; have R4 := hidden (RD.out.strA hown hgrow); obtain ⟨va4, vc4, rfl⟩ := R4.out.shape; clear hown hgrow)
          | (go_at_call 56; (with_reducible refine (HDG.out _).mono ?_); rintro e w3 ⟨rfl, hb3⟩; have RD := hidden (HR.out.below hb3); clear hb3))
        go_roundg (n - (k + 1))
        case measure => omega
        case rel => exact ⟨k + 1, l ++ numT x, va4, vc4, by omega, rfl, by go_num, by first | rfl | (simp only [List.length_append]), R4.out, by rw [HTK.out, ← List.append_assoc, ← HL.out], by have := HNL.out; rw [List.length_append]; omega⟩
      · have hE : Hid (Ext [] (HD ++ numsT ns ++ [59, 10]) (l ++ [59, 10])) := by
          by_cases h1 : 1048576 < l.length
          · exact line_cut HL.out h1
          · have ek : ns.length ≤ k := by omega
            have e1 := HL.out
            rw [List.take_of_length_le ek] at e1
            rw [e1]
            exact line_all
        have HX : Hid (HD ++ [] = HD) := HHQ.out.symm
        by_cases hlt3 : k < n
        · have hki : (k : Int) < (n : Int) := by omega
          have hli : ¬ (l.length : Int) ≤ 1048576 := by omega
          go_wp2_with (at_builtin; refine Lib.wpList_append_own_string _ rfl _ _ 67 9 rfl W0.heap.size 5 i5 Tryz.underlying67 Tryz.underlying9 HJ.out HJ0.out HJ1.out HJ2.out _ l.length (Lib.strCells (str l)) rfl HR.out.bytes (str [59, 10]) rfl (by rw [str_size]; simp only [List.length_nil, List.length_cons]; unfold maxLen; omega) (by rw [str_size]; simp only [List.length_nil, List.length_cons]; omega) HR.out.bel.size ?_; intro v4 w4 hown hgrow _; have R4 := hidden (HR.out.strA hown hgrow); clear hown hgrow)
          go_ret
          exact ⟨_, _, rfl, rb_mono R4.out HBA.out, by rw [HFULL.out, HX.out]; exact hE.out, by rw [List.length_append]; simp; omega⟩
        · have hki : ¬ (k : Int) < (n : Int) := by omega
          go_wp2_with (at_builtin; refine Lib.wpList_append_own_string _ rfl _ _ 67 9 rfl W0.heap.size 5 i5 Tryz.underlying67 Tryz.underlying9 HJ.out HJ0.out HJ1.out HJ2.out _ l.length (Lib.strCells (str l)) rfl HR.out.bytes (str [59, 10]) rfl (by rw [str_size]; simp only [List.length_nil, List.length_cons]; unfold maxLen; omega) (by rw [str_size]; simp only [List.length_nil, List.length_cons]; omega) HR.out.bel.size ?_; intro v4 w4 hown hgrow _; have R4 := hidden (HR.out.strA hown hgrow); clear hown hgrow)
          go_ret
          exact ⟨_, _, rfl, rb_mono R4.out HBA.out, by rw [HFULL.out, HX.out]; exact hE.out, by rw [List.length_append]; simp; omega⟩

theorem rline_any (W : World) (x : Itm) (a : Option Addr) (c : Nat) (hx : Neat x) (hr : IntsAt W (.slice a x.nums.length c) x.nums) (hnl : x.nums.length ≤ 1048576) :
    Calls Tryz.prog 31 #[.agg (itC x.kind x.name x.tag (.slice a x.nums.length c) x.frm x.to x.place)] W (LineE W (itemT x)) := by
  rcases hx.kind with h | h | h | h
  · exact rline_1 W x a c hx hr hnl h
  · by_cases hw : x.nums = []
    · exact rline_2n W x a c hx hr hnl h hw
    · exact rline_2y W x a c hx hr hnl h hw
  · exact rline_3 W x a c hx hr hnl h
  · exact rline_4 W x a c hx hr hnl h
end Go.Proofs.YthgblljokonejaaGreatDoor

/- The document's Print (pianolaref05.Print), whatever the sketch. (Written by tmpl/mkSR4.py.) -/
namespace Go.Proofs.YthgblljokonejaaGreatDoor
open Go.ChangeShapes Go.WideShapes Go.ChangeAt Go.RowKit

theorem byte_one (m : List UInt8) : ∀ u ∈ Lib.strCells (str m), u.oneCell' = true := by
  intro u hu
  rw [strCells_str] at hu
  obtain ⟨b, -, rfl⟩ := List.mem_map.1 hu
  rfl
theorem byte_look {base : Nat} {w : World} {g cap : Nat} {m : List UInt8} (h : OwnB base w (.slice (some ⟨g, 0, none⟩) m.length cap) m) : ∀ j u, (Lib.strCells (str m))[j]? = some u → w.cell? ((⟨g, 0, none⟩ : Addr).add j) = some u := by
  intro j u hu
  have hj : j < (Lib.strCells (str m)).length := (List.getElem?_eq_some_iff.1 hu).1
  rw [add_zero5, World.ownsRow.cellAt h j (by rw [strCells_str] at hj; simpa using hj)]
  exact hu
theorem RB.rowA {V vb l wr v' w'} {m : List UInt8} (h : RB V vb l wr) (ho : w'.ownsRow V.heap.size 5 1 v' (l.length + m.length) (Lib.strCells (str l) ++ Lib.strCells (str m))) (hg : wr.grownBy w' vb.ownBlock) : RB V v' (l ++ m) w' := by
  refine ⟨?_, below_grownO h.bel hg (fun k e => (row_low h.bytes k e).1) h.bel.size⟩
  unfold OwnB
  rw [cells_append, List.length_append]
  exact ho
theorem item_long (x : Itm) : 2 ≤ (itemT x).length := by unfold itemT; simp; omega
theorem line_some {W : World} {vb : Value} {m : List UInt8} {w : World} {x : Itm} (h : RB W vb m w) (he : Ext [] (itemT x) m) : ∃ g c, vb = .slice (some ⟨g, 0, none⟩) m.length c := by
  have hm : 0 < m.length := by
    rcases he.is with e | ⟨e, -⟩
    · rw [e]; have := item_long x; simp; omega
    · omega
  rcases h.bytes.2 with ⟨-, h2⟩ | ⟨g, cap, cur, rfl, -⟩
  · omega
  · exact ⟨g, cap, rfl⟩
theorem ext_line {l m full : List UInt8} (h : Ext [] full m) : Ext l full (l ++ m) := by
  refine ⟨by simp, ?_⟩
  rcases h.is with e | ⟨e1, e2⟩
  · left; rw [e]; simp
  · right; simp at e2 ⊢; omega
set_option maxRecDepth 100000 in
set_option maxHeartbeats 8000000 in
theorem rprint_any (nm : List UInt8) (a : Option Addr) (n c : Nat) (L : List (Itm × Value)) (W : World) (hn : L.length = n) (h : ItR W a L) (hl : n ≤ 1048576) (hf : ∀ p ∈ L, Fits p.1) (hm : ∀ p ∈ L, p.1.nums.length ≤ 1048576) :
    Calls Tryz.prog 13 #[.agg #[.string (str nm), .slice a n c]] W fun e w' => e = .returned (.tuple #[.string (str (printO nm L).1), .int .i64 (printO nm L).2]) ∧ Below W.heap.size W w' := by
  have HF := hidden hf
  have HM := hidden hm
  have hI : (n : Int) ≤ 1048576 := by omega
  have HN : Hid (∀ w1, Calls Tryz.prog 29 #[.string (str nm)] w1 fun e w' => e = .returned (.bool (nameB nm)) ∧ Below w1.heap.size w1 w') := fun w1 => rname5 nm w1
  cases hnb : nameB nm with
  | false =>
    have HE : Hid (printO nm L = ([], 1)) := by show _ = _; unfold printO; rw [hnb, Bool.and_false]; rfl
    rw [hnb] at HN
    rw [HE.out]
    have HBA := hidden ((Below.refl W.heap.size W).alloc (Nat.le_refl _) (.cells #[.string (str nm), .slice a n c] 24))
    clear h hf hm hnb
    go_enter Tryz.func13, Tryz.ntmps13
    go_wp2_with (go_at_call 29; (with_reducible refine (HN.out _).mono ?_); rintro e w1 ⟨rfl, hb⟩; have B1 := hidden (HBA.out.trans (hb.mono HBA.out.size)); clear hb)
    go_ret2
    exact ⟨rfl, B1.out⟩
  | true =>
    have hnm := name_16 hnb
    have HHL : Hid ((headS nm).length ≤ 100) := by show _ ≤ _; unfold headS; simp; omega
    have z1 : ¬ (9223372036854775807 < 6 + (str nm).size) := by rw [str_size]; omega
    have z2 : ¬ (9223372036854775807 < (str ([103, 114, 97, 112, 104, 32] ++ nm)).size + 3) := by rw [str_size]; simp; omega
    have j1 : (⟨#[103, 114, 97, 112, 104, 32]⟩ : ByteArray) ++ str nm = str ([103, 114, 97, 112, 104, 32] ++ nm) := str_app _ _
    have j2 : str ([103, 114, 97, 112, 104, 32] ++ nm) ++ (⟨#[32, 123, 10]⟩ : ByteArray) = str (headS nm) := str_app _ _
    generalize str ([103, 114, 97, 112, 104, 32] ++ nm) = M1 at *
    rw [hnb] at HN
    have HNB := hidden hnb
    obtain ⟨i5, hi5, hy0, hy1, hy2⟩ := info_parts Tryz.info5
    have HJ := hidden hi5
    have HJ0 := hidden hy0
    have HJ1 := hidden hy1
    have HJ2 := hidden hy2
    have HIT := hidden h
    clear h hf hm hnb hnm hi5 hy0 hy1 hy2
    go_enter Tryz.func13, Tryz.ntmps13
    go_upto_region 1 with fail
    have hK := blk_new 24 W #[.string (str nm), .slice a n c]
    have hbA := (Below.refl W.heap.size W).alloc (Nat.le_refl _) (.cells #[.string (str nm), .slice a n c] 24)
    generalize W.alloc (.cells #[.string (str nm), .slice a n c] 24) = W0 at hK hbA ⊢
    have d0 : W0.cell? ⟨W.heap.size, 0, none⟩ = some (.string (str nm)) := hK.cell (k := 0) rfl
    have d1 : W0.cell? ⟨W.heap.size, 1, none⟩ = some (.slice a n c) := hK.cell (k := 1) rfl
    have D0 := hidden d0
    have D1 := hidden d1
    have HBA := hidden hbA
    have HRW := hidden (HIT.out.below hbA)
    clear hK hbA HIT d1
    go_wp2_with (go_at_call 29; (with_reducible refine (HN.out _).mono ?_); rintro e w1 ⟨rfl, hb⟩; have B1 := hidden hb; clear hb)
    clear d0
    go_loopg [4] n (fun gk v wr => ∃ (k : Nat), k ≤ n ∧ gk = n - k ∧ v = .int .i64 (k : Int) ∧ Below W0.heap.size W0 wr ∧ ∀ j, j < k → rightX (nthI L j).1 = true)
    case atStart => exact ⟨0, Nat.zero_le _, rfl, rfl, B1.out, fun j hj => by omega⟩
    case round =>
      clear B1
      obtain ⟨k, hk, rfl, rfl, hbe, hall⟩ := hrel
      have HBE := hidden hbe
      have HALL := hidden hall
      have y0 := cell_keep hbe D0.out
      have y1 := cell_keep hbe D1.out
      clear hbe hall
      by_cases hlt : k < n
      · have hki : (k : Int) < (n : Int) := by omega
        have hitr := HRW.out.below HBE.out
        rcases hitr.lie with e | ⟨g, off, rfl, hc⟩
        · rw [e] at hn; simp at hn; omega
        obtain ⟨c0, c1, c2, c3, c4, c5, c6, c7, c8, c9, c10⟩ := hc k (by omega)
        obtain ⟨a1, k1, e2, -⟩ := hitr.nums _ (nthI_mem (L := L) (k := k) (by omega))
        rw [e2] at c3
        have HRI : Hid (∀ w1, Calls Tryz.prog 30 #[.agg (itC (nthI L k).1.kind (nthI L k).1.name (nthI L k).1.tag (.slice a1 (nthI L k).1.nums.length k1) (nthI L k).1.frm (nthI L k).1.to (nthI L k).1.place)] w1 fun e w' => e = .returned (.bool (rightX (nthI L k).1)) ∧ Below w1.heap.size w1 w') := fun w1 => rrightItem_any _ a1 k1 w1
        unfold itC at HRI
        clear hitr
        cases hr : rightX (nthI L k).1 with
        | false =>
          have HE : Hid (printO nm L = ([], 1)) := by show _ = _; unfold printO; rw [right_false (L := L) (k := k) (by omega) hr, Bool.false_and]; rfl
          rw [hr] at HRI
          clear hr hc e2
          generalize (nthI L k).1 = x at *
          go_wp2_with (go_at_call 30; (with_reducible refine (HRI.out _).mono ?_); rintro e w5 ⟨rfl, hb⟩; have B5 := hidden (HBE.out.trans (hb.mono HBE.out.size)); clear hb)
          go_ret2
          exact ⟨by rw [HE.out]; rfl, HBA.out.trans (B5.out.mono HBA.out.size)⟩
        | true =>
          have HT : Hid (∀ j, j < k + 1 → rightX (nthI L j).1 = true) := fun j hj => by
            by_cases e : j < k
            · exact HALL.out j e
            · have : j = k := by omega
              subst this
              exact hr
          rw [hr] at HRI
          clear hr hc e2
          generalize (nthI L k).1 = x at *
          go_wp2_with (go_at_call 30; (with_reducible refine (HRI.out _).mono ?_); rintro e w5 ⟨rfl, hb⟩; have B5 := hidden (HBE.out.trans (hb.mono HBE.out.size)); clear hb)
          go_roundg (n - (k + 1))
          case measure => omega
          case rel => exact ⟨k + 1, by omega, rfl, by go_num, B5.out, HT.out⟩
      · have hki : ¬ ((k : Int) < (n : Int)) := by omega
        have hrl := right_true (L := L) (fun j hj => HALL.out j (by omega))
        have HRB : Hid ((rightL L && nameB nm) = true) := by show _ = _; rw [hrl, HNB.out]; rfl
        have HNE : Hid (∀ p ∈ L, Neat p.1) := fun p hp => right_neat (by have := hrl; unfold rightL at this; exact List.all_eq_true.1 this p hp) (HF.out p hp)
        have R0 : Hid (RB W0 (.slice none 0 0) [] wr) := ⟨World.ownsRow_nil _ _ _ _, HBE.out⟩
        clear hrl HALL hlt
        go_wp2_with (at_builtin; refine Lib.wpList_append_own_string _ rfl _ _ 67 9 rfl W0.heap.size 5 i5 Tryz.underlying67 Tryz.underlying9 HJ.out HJ0.out HJ1.out HJ2.out _ ([] : List UInt8).length (Lib.strCells (str ([] : List UInt8))) rfl R0.out.bytes (str (headS nm)) rfl (by have := HHL.out; rw [str_size]; simp only [List.length_nil]; unfold maxLen; omega) (by have := HHL.out; rw [str_size]; simp only [List.length_nil]; omega) R0.out.bel.size ?_; intro v1 w1 hown hgrow _; have R1 := hidden (R0.out.strA hown hgrow); have g1 := cell_keep R1.out.bel D1.out; obtain ⟨va1, vc1, rfl⟩ := R1.out.shape; simp only [List.nil_append] at R1; clear hown hgrow)
        go_loopg [5, 6] n (fun gk sv v wr => ∃ (k : Nat) (l : List UInt8) (va : Option Addr) (vc : Nat), k ≤ n ∧ gk = n - k ∧ v = .int .i64 (k : Int) ∧ sv = .slice va l.length vc ∧ RB W0 (.slice va l.length vc) l wr ∧ Ext (headS nm) (itemsT (L.take k)) l ∧ l.length ≤ 2100000)
        case atStart => exact ⟨0, headS nm, va1, vc1, Nat.zero_le _, rfl, rfl, rfl, R1.out, ⟨Nat.le_refl _, Or.inl (by simp [itemsT])⟩, by have := HHL.out; omega⟩
        case round =>
          clear R1 g1
          obtain ⟨k, l, va, vc, hk, rfl, rfl, rfl, hR, hex, hl2⟩ := hrel
          have HR := hidden hR
          have HEX := hidden hex
          have y1 := cell_keep hR.bel D1.out
          have hlI : (l.length : Int) ≤ 2100000 := by omega
          clear hR hex
          by_cases hlt : k < n ∧ l.length ≤ 1048576
          · obtain ⟨hlt, hle⟩ := hlt
            have hki : (k : Int) < (n : Int) := by omega
            have hli : (l.length : Int) ≤ 1048576 := by omega
            have hitr := HRW.out.below HR.out.bel
            rcases hitr.lie with e | ⟨g, off, rfl, hc⟩
            · rw [e] at hn; simp at hn; omega
            obtain ⟨c0, c1, c2, c3, c4, c5, c6, c7, c8, c9, c10⟩ := hc k (by omega)
            have hmem := nthI_mem (L := L) (k := k) (by omega)
            obtain ⟨a1, k1, e2, hrow⟩ := hitr.nums _ hmem
            rw [e2] at c3
            have HLN : Hid (∀ w1, Below wr.heap.size wr w1 → Calls Tryz.prog 31 #[.agg (itC (nthI L k).1.kind (nthI L k).1.name (nthI L k).1.tag (.slice a1 (nthI L k).1.nums.length k1) (nthI L k).1.frm (nthI L k).1.to (nthI L k).1.place)] w1 (LineE w1 (itemT (nthI L k).1))) := fun w1 h1 => rline_any w1 _ a1 k1 (HNE.out _ hmem) ((show IntsAt wr (.slice a1 (nthI L k).1.nums.length k1) (nthI L k).1.nums from ⟨a1, k1, rfl, hrow⟩).below h1) (HM.out _ hmem)
            have HTK := hidden (items_take (L := L) (k := k) (by omega))
            unfold itC at HLN
            clear hc e2 hrow hmem hitr
            generalize (nthI L k).1 = x at *
            go_wp2_with (first
              | (at_builtin; refine wpList_append_own _ rfl _ _ 67 rfl W0.heap.size 5 i5 (.int .u8 0) 1 1 Tryz.underlying67 HJ.out HJ0.out HJ1.out HJ2.out rfl (by decide) _ l.length (Lib.strCells (str l)) rfl RD.out.bytes ⟨lg, 0, none⟩ m.length lc (Lib.strCells (str m)) rfl (by rw [strCells_str]; simp) (byte_look ML.out) (byte_one m) (by have := HML.out; unfold maxLen; omega) (by have := HML.out; omega) RD.out.bel.size ?_; intro v4 w4 hown hgrow _; have R4 := hidden (RD.out.rowA hown hgrow); obtain ⟨va4, vc4, rfl⟩ := R4.out.shape; clear hown hgrow)
              | (go_at_call 31; (with_reducible refine (HLN.out _ (Below.refl _ _)).mono ?_); rintro e w3 ⟨vb, m, rfl, hrb, hem, hml⟩; obtain ⟨lg, lc, rfl⟩ := line_some hrb hem; have RD := hidden (HR.out.below hrb.bel); have ML := hidden hrb.bytes; have HML := hidden hml; have HEM := hidden hem; clear hrb hem hml))
            go_roundg (n - (k + 1))
            case measure => omega
            case rel => exact ⟨k + 1, l ++ m, va4, vc4, by omega, rfl, by go_num, by first | rfl | (simp only [List.length_append]), R4.out, by rw [HTK.out]; exact HEX.out.trans (ext_line HEM.out), by have := HML.out; rw [List.length_append]; omega⟩
          · have hE : Hid (Ext (headS nm) (itemsT L ++ [125, 10]) (l ++ [125, 10])) := by
              by_cases h1 : 1048576 < l.length
              · have h2 := (HEX.out.more h1 (itemsT (L.drop k))).trans (Ext.all l [125, 10])
                rw [← items_split] at h2
                exact h2
              · have ek : L.length ≤ k := by omega
                have h2 := HEX.out.trans (Ext.all l [125, 10])
                rw [List.take_of_length_le ek] at h2
                exact h2
            have FIN := hidden (sketch_done hE.out)
            have hP : Hid (((l ++ [125, 10]).length ≤ 1048576 → printO nm L = (l ++ [125, 10], 0)) ∧ (1048576 < (l ++ [125, 10]).length → printO nm L = ([], 2))) := by
              refine ⟨fun h1 => ?_, fun h1 => ?_⟩
              · rcases FIN.out with e | ⟨e, -⟩
                · unfold printO; rw [if_pos HRB.out, ← e, if_neg (by omega)]
                · omega
              · rcases FIN.out with e | ⟨-, e⟩
                · unfold printO; rw [if_pos HRB.out, ← e, if_pos h1]
                · unfold printO; rw [if_pos HRB.out, if_pos e]
            clear hE FIN
            have hlc : ((l ++ [125, 10]).length : Int) = (l.length : Int) + 2 := by rw [List.length_append]; simp
            have hcond : (k < n → ¬ l.length ≤ 1048576) := fun h1 h2 => hlt ⟨h1, h2⟩
            by_cases hlt3 : k < n
            · have hki : (k : Int) < (n : Int) := by omega
              have hli : ¬ (l.length : Int) ≤ 1048576 := by have := hcond hlt3; omega
              have hbg : 1048576 < (l ++ [125, 10]).length := by have := hcond hlt3; rw [List.length_append]; simp; omega
              have hbi : (1048576 : Int) < (l.length : Int) + 2 := by omega
              have PE := hidden (hP.out.2 hbg)
              clear hP hlt hcond hlc hbg
              go_wp2_with (at_builtin; refine Lib.wpList_append_own_string _ rfl _ _ 67 9 rfl W0.heap.size 5 i5 Tryz.underlying67 Tryz.underlying9 HJ.out HJ0.out HJ1.out HJ2.out _ l.length (Lib.strCells (str l)) rfl HR.out.bytes (str [125, 10]) rfl (by rw [str_size]; simp only [List.length_nil, List.length_cons]; unfold maxLen; omega) (by rw [str_size]; simp only [List.length_nil, List.length_cons]; omega) HR.out.bel.size ?_; intro v4 w4 hown hgrow _; have R4 := hidden (HR.out.strA hown hgrow); obtain ⟨va4, vc4, rfl⟩ := R4.out.shape; clear hown hgrow)
              go_ret2
              exact ⟨by rw [PE.out]; rfl, HBA.out.trans (R4.out.bel.mono HBA.out.size)⟩
            · have hki : ¬ (k : Int) < (n : Int) := by omega
              by_cases hbg : 1048576 < (l ++ [125, 10]).length
              · have hbi : (1048576 : Int) < (l.length : Int) + 2 := by omega
                have PE := hidden (hP.out.2 hbg)
                clear hP hlt hcond hlc hbg
                go_wp2_with (at_builtin; refine Lib.wpList_append_own_string _ rfl _ _ 67 9 rfl W0.heap.size 5 i5 Tryz.underlying67 Tryz.underlying9 HJ.out HJ0.out HJ1.out HJ2.out _ l.length (Lib.strCells (str l)) rfl HR.out.bytes (str [125, 10]) rfl (by rw [str_size]; simp only [List.length_nil, List.length_cons]; unfold maxLen; omega) (by rw [str_size]; simp only [List.length_nil, List.length_cons]; omega) HR.out.bel.size ?_; intro v4 w4 hown hgrow _; have R4 := hidden (HR.out.strA hown hgrow); obtain ⟨va4, vc4, rfl⟩ := R4.out.shape; clear hown hgrow)
                go_ret2
                exact ⟨by rw [PE.out]; rfl, HBA.out.trans (R4.out.bel.mono HBA.out.size)⟩
              · have hbi : ¬ (1048576 : Int) < (l.length : Int) + 2 := by omega
                have PE := hidden (hP.out.1 (by omega))
                clear hP hlt hcond hlc hbg
                go_wp2_with (at_builtin; refine Lib.wpList_append_own_string _ rfl _ _ 67 9 rfl W0.heap.size 5 i5 Tryz.underlying67 Tryz.underlying9 HJ.out HJ0.out HJ1.out HJ2.out _ l.length (Lib.strCells (str l)) rfl HR.out.bytes (str [125, 10]) rfl (by rw [str_size]; simp only [List.length_nil, List.length_cons]; unfold maxLen; omega) (by rw [str_size]; simp only [List.length_nil, List.length_cons]; omega) HR.out.bel.size ?_; intro v4 w4 hown hgrow _; have R4 := hidden (HR.out.strA hown hgrow); obtain ⟨va4, vc4, rfl⟩ := R4.out.shape; have cv : (convert 67 9 (.slice va4 (l.length + 2) vc4)).run Tryz.prog w4 = .ok (.string (str (l ++ [125, 10]))) w4 := (by have q := conv_bytes R4.out.bytes; rw [List.length_append] at q; exact q); clear hown hgrow)
                go_ret2
                exact ⟨by rw [PE.out]; rfl, HBA.out.trans (R4.out.bel.mono HBA.out.size)⟩
end Go.Proofs.YthgblljokonejaaGreatDoor

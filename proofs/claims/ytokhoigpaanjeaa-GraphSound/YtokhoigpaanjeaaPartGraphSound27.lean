/- Texts of one chain, laid one behind the other. -/
import Derived.Test.YtokhoigpaanjeaaPartGraphSound26
import Derived.Test.YtokhoigpaanjeaaPartGraphSound8
import Derived.Test.YtokhoigpaanjeaaPartGraphSound25
namespace Go.Proofs.Ytokhoigpaanjeaa
open Go.ChangeShapes Go.WideShapes Go.ChangeAt Go.RowKit
def NewC (B : Nat) (T : TypeId) (cs : Array Value) (u : World) (v : Value) : Prop := ∃ xb, v = .pointer (some ⟨xb, 0, none⟩) ∧ B ≤ xb ∧ BlkA T xb u cs
theorem NewC.later {B : Nat} {T : TypeId} {cs : Array Value} {u u' : World} {v : Value} (h : NewC B T cs u v) (hb : Below u.heap.size u u') : NewC B T cs u' v := by
  obtain ⟨xb, h1, h2, h3⟩ := h
  exact ⟨xb, h1, h2, h3.below hb⟩
/-- Rows of numbers stay while a row of items grows. -/
theorem FilS.ints {S : TypeId} {w0 V u : World} {hb : Nat} {c f : Nat} {cs : Array Value} {v : Value} {n : Nat} {xs e : List Value} (h : FilS S w0 V hb 45 c cs v n xs) (ap : AppE (fun _ es => es = e) V w0.heap.size 45 c v n xs S hb f cs u) {r : Value} {ns : List Int} (hI : Ints w0.heap.size V r ns) : Ints w0.heap.size u r ns := by
  obtain ⟨es, w1, u1, z, hD, hbut, hblk⟩ := ap
  have hold := h.old
  refine ownR_keep hI fun k hk => ?_
  have hlt := own_lt hI k hk
  have hge := own_row hI k hk
  have hne : v.ownBlock ≠ some k := fun e => by
    rcases hI.2 with ⟨hv, -⟩ | ⟨g, cap, cur, hv, hg, hh, -⟩
    · rw [hv] at hk; cases hk
    · rw [hv] at hk
      cases hk
      exact own_type h.row (hb := g) (S := 3) (cs := cur) hh (by decide) g e rfl
  exact (hbut.block k (Nat.lt_of_lt_of_le hlt hD.chg.size) (by omega)).trans (hD.chg.block k hlt hne)
theorem clean_small {x : Itm} (h : SmallI x) : SmallI (cleanI x) := by
  obtain ⟨h1, h2, h3, h4⟩ := h
  refine ⟨?_, ?_, ?_, ?_⟩
  · show NumsOk (if _ then _ else _)
    split
    · exact h1
    · exact nums_nil
  · show (if _ then _ else _ : List UInt8).length ≤ _
    split
    · exact Nat.zero_le _
    · exact h2
  · show (if _ then _ else _ : Plc).name.length ≤ _
    split
    · exact h3
    · exact Nat.zero_le _
  · show (if _ then _ else _ : Plc).name.length ≤ _
    split
    · exact h4
    · exact Nat.zero_le _
def CleanE (w : World) (nm : List UInt8) (L : List (Itm × Value)) (e : Ending) (w' : World) : Prop :=
  ∃ d k M, e = .returned (.agg #[.string (str nm), .slice d M.length k]) ∧ M.map Prod.fst = (L.map Prod.fst).map cleanI ∧ ItR w' d M ∧ ItO w' M ∧ Below w.heap.size w w'
set_option maxRecDepth 100000 in
set_option maxHeartbeats 32000000 in
theorem clean_any (nm : List UInt8) (a : Option Addr) (n c : Nat) (L : List (Itm × Value)) (w : World) (h : ArgS w a n L) (hn : n ≤ 1048576) (hm : ∀ p ∈ L, p.1.nums.length ≤ 1048576) (hk4 : ∀ p ∈ L, 1 ≤ p.1.kind ∧ p.1.kind ≤ 4) (hz : ∀ p ∈ L, SmallI p.1) :
    Calls Try.prog 14 #[.agg #[.string (str nm), .slice a n c]] w (CleanE w nm L) := by
  have HA := hiddenG h
  have HMX := hiddenG hm
  have HK := hiddenG hk4
  have HZ := hiddenG hz
  have HL := hiddenG h.size
  have hnI : (n : Int) ≤ 1048576 := by omega
  obtain ⟨i0, hi, hz0, hz1, hz2⟩ := info_parts Try.infoIT
  have HJ := hiddenG hi
  have HJ0 := hiddenG hz0
  have HJ1 := hiddenG hz1
  have HJ2 := hiddenG hz2
  have q1 := (Below.refl w.heap.size w).alloc (Nat.le_refl _) (.cells #[.string (str nm), .slice a n c] 24)
  have s1 : (w.alloc (.cells #[.string (str nm), .slice a n c] 24)).heap.size = w.heap.size + 1 := by simp
  have s2 : ((w.alloc (.cells #[.string (str nm), .slice a n c] 24)).alloc (.cells #[.string ⟨#[]⟩, .slice none 0 0] 24)).heap.size = w.heap.size + 2 := by simp
  have k1 := blkA_new 24 w #[.string (str nm), .slice a n c]
  have k2 := blkA_new 24 (w.alloc (.cells #[.string (str nm), .slice a n c] 24)) #[.string ⟨#[]⟩, .slice none 0 0]
  have k3 := blkA_new 24 ((w.alloc (.cells #[.string (str nm), .slice a n c] 24)).alloc (.cells #[.string ⟨#[]⟩, .slice none 0 0] 24)) #[.string (str nm), .slice none 0 0]
  rw [s1] at k2
  rw [s2] at k3
  have XG0 := hiddenG ((k1.below ((Below.refl _ _).alloc (Nat.le_refl _) (.cells #[.string ⟨#[]⟩, .slice none 0 0] 24))).below ((Below.refl _ _).alloc (Nat.le_refl _) (.cells #[.string (str nm), .slice none 0 0] 24)))
  have XR0 := hiddenG (k2.below ((Below.refl _ _).alloc (Nat.le_refl _) (.cells #[.string (str nm), .slice none 0 0] 24)))
  have LW0 : Hid (Below w.heap.size w (((w.alloc (.cells #[.string (str nm), .slice a n c] 24)).alloc (.cells #[.string ⟨#[]⟩, .slice none 0 0] 24)).alloc (.cells #[.string (str nm), .slice none 0 0] 24))) := (q1.alloc (by simp) _).alloc (by simp; omega) _
  have BK0 := hiddenG k3
  clear q1 s1 s2 k1 k2 k3 h hm hk4 hz hi hz0 hz1 hz2
  go_enter Try.func14, Try.ntmps14
  go_upto_region 2 with fail
  generalize (((w.alloc (.cells #[.string (str nm), .slice a n c] 24)).alloc (.cells #[.string ⟨#[]⟩, .slice none 0 0] 24)).alloc (.cells #[.string (str nm), .slice none 0 0] 24)) = W0 at *
  obtain ⟨hb, hhb⟩ : ∃ q, w.heap.size + 1 + 1 = q := ⟨_, rfl⟩
  rw [hhb]
  rw [show w.heap.size + 2 = hb from hhb] at BK0
  have FI0 : Hid (FilS 24 W0 W0 hb 45 11 #[.string (str nm), .slice none ([] : List (Itm × Value)).length 0] (.slice none ([] : List (Itm × Value)).length 0) ([] : List (Itm × Value)).length (([] : List (Itm × Value)).flatMap itP)) := FilS.nil 45 11 BK0.out
  have hwh : w.heap.size ≤ hb := by omega
  have hgh : w.heap.size ≠ hb := by omega
  have hrh : w.heap.size + 1 ≠ hb := by omega
  clear BK0
  go_wp2
  go_loopg [4] n (fun gk u wr => ∃ (j : Nat) (d : Option Addr) (kk : Nat) (M : List (Itm × Value)), j ≤ n ∧ gk = n - j ∧ u = .int .i64 (j : Int) ∧ M.map Prod.fst = ((L.take j).map Prod.fst).map cleanI ∧ (∀ p ∈ M, Ints W0.heap.size wr p.2 p.1.nums) ∧ FilS 24 W0 wr hb 45 11 #[.string (str nm), .slice d M.length kk] (.slice d M.length kk) M.length (M.flatMap itP))
  case atStart => exact ⟨0, none, 0, [], Nat.zero_le _, rfl, rfl, by simp, (fun p hp => by cases hp), FI0.out⟩
  case round =>
    obtain ⟨j, d, kk, M, hj, rfl, rfl, hM, hN, hF⟩ := hrel
    have FX := hiddenG hF
    have HM := hiddenG hM
    have HN := hiddenG hN
    have hMl : M.length ≤ n := by
      have e1 := congrArg List.length hM
      simp [HL.out] at e1
      omega
    clear hF hM hN FI0
    have XG := hiddenG (XG0.out.keep (FX.out.keep _ XG0.out.lt hgh))
    have BW := hiddenG (LW0.out.trans (FX.out.bel hwh))
    have y1 : wr.cell? ⟨w.heap.size, 1, none⟩ = some (.slice a n c) := XG.out.cell (k := 1) rfl
    by_cases hlj : j < n
    · have hji : (j : Int) < (n : Int) := by omega
      have hkl : j < n := hlj
      have hjL : j < L.length := by rw [HL.out]; exact hlj
      have hwj : IntKind.i64.wrap ((j : Int) + 1) = (j : Int) + 1 := by rw [IntKind.wrap_i64]; omega
      have TK := hiddenG (take_oneI hjL)
      rcases HA.out.lies.lie with e | ⟨eb, eo, ee, hce⟩
      · rw [e] at hjL; exact absurd hjL (Nat.not_lt_zero _)
      subst ee
      obtain ⟨f0, f1, f2, f3, f4, f5, f6, f7, f8, f9, f10⟩ := hce j hjL
      have hmem := nthI_mem hjL
      obtain ⟨xa, xc, hxv, hnone, hroom⟩ := HA.out.shp _ hmem
      have hint := HA.out.lies.nums _ hmem
      rw [hxv] at f3 hint
      have IN : Hid (∀ U, Below w.heap.size w U → Calls Try.prog 38 #[.slice xa (nthI L j).1.nums.length xc] U (CopiedC U (nthI L j).1.nums.length (nthI L j).1.nums)) := fun U hU => ints_own xa _ _ xc U (ints_arg (hint.below hU) hnone hroom (HMX.out _ hmem) (HA.out.fits _ hmem).2.2)
      have hKK := HK.out _ hmem
      have m0 := cellG BW.out f0
      have m1 := cellG BW.out f1
      have m2 := cellG BW.out f2
      have m3 := cellG BW.out f3
      have m4 := cellG BW.out f4
      have m5 := cellG BW.out f5
      have m6 := cellG BW.out f6
      have m7 := cellG BW.out f7
      have m8 := cellG BW.out f8
      have m9 := cellG BW.out f9
      have m10 := cellG BW.out f10
      clear f0 f1 f2 f3 f4 f5 f6 f7 f8 f9 f10 hce hxv hint hnone hroom hmem
      generalize (nthI L j).1 = x at *
      obtain ⟨ki, xn, xt, ns, ⟨fn, fp, fa⟩, ⟨tn, tp, ta⟩, pl⟩ := x
      simp only at m0 m1 m2 m3 m4 m5 m6 m7 m8 m9 m10 IN TK hKK
      have m0r := hiddenG m0
      have m1r := hiddenG m1
      have m2r := hiddenG m2
      have m3r := hiddenG m3
      have m4r := hiddenG m4
      have m5r := hiddenG m5
      have m6r := hiddenG m6
      have m7r := hiddenG m7
      have m8r := hiddenG m8
      have m9r := hiddenG m9
      have m10r := hiddenG m10
      have y1r := hiddenG y1
      clear m1 m2 m3 m4 m5 m6 m7 m8 m9
      have hK4 : ki = 1 ∨ ki = 2 ∨ ki = 3 ∨ ki = 4 := by omega
      have HK4 := hiddenG hK4
      clear hKK hK4
      go_upto_region 5 with fail
      refine wp_region_said 14 (fun i u v => match i with
          | 0 => v = .pointer (some ⟨w.heap.size, 1, none⟩)
          | 1 => v = .slice (some ⟨eb, eo, none⟩) n c
          | 2 => v = .int .i64 (j : Int)
          | 3 => v = .pointer (some ⟨eb, eo + j * 11, none⟩)
          | 4 => v = .pointer (some ⟨eb, eo + j * 11, none⟩)
          | 5 => v = .int .u8 ki
          | 6 => v = .pointer (some ⟨w.heap.size, 1, none⟩)
          | 7 => v = .slice (some ⟨eb, eo, none⟩) n c
          | 8 => v = .int .i64 (j : Int)
          | 9 => v = .pointer (some ⟨eb, eo + j * 11, none⟩)
          | 10 => v = .pointer (some ⟨eb, eo + j * 11 + 10, none⟩)
          | 11 => v = .int .i64 pl
          | 12 => v = .agg #[.int .u8 ki, .string ⟨#[]⟩, .string ⟨#[]⟩, .slice none 0 0, .string ⟨#[]⟩, .int .i64 0, .int .i64 0, .string ⟨#[]⟩, .int .i64 0, .int .i64 0, .int .i64 pl]
          | 13 => NewC wr.heap.size 45 #[.int .u8 0, .string ⟨#[]⟩, .string ⟨#[]⟩, .slice none 0 0, .string ⟨#[]⟩, .int .i64 0, .int .i64 0, .string ⟨#[]⟩, .int .i64 0, .int .i64 0, .int .i64 0] u v
          | _ => True) (by kernel_rfl) (by kernel_rfl) (by kernel_rfl) (by kernel_rfl) ?_ ?_ ?_
      · intro i w v w' h hb
        match i, h with
        | 0, h => exact h
        | 1, h => exact h
        | 2, h => exact h
        | 3, h => exact h
        | 4, h => exact h
        | 5, h => exact h
        | 6, h => exact h
        | 7, h => exact h
        | 8, h => exact h
        | 9, h => exact h
        | 10, h => exact h
        | 11, h => exact h
        | 12, h => exact h
        | 13, h => exact h.later hb
        | _ + 14, _ => trivial
      · intro i o ρ w' hi ho hb hc hf hfr hdep
        have y1 := cellG hb y1
        have m0 := cellG hb m0
        have m10 := cellG hb m10
        match i, hi with
        | 0, _ =>
          simp only [gTA, gCZ, gSI] at ho
          subst ho
          have ts : ρ (.tmp 1) = .pointer (some ⟨w.heap.size, 0, none⟩) := hfr 1 (by kernel_rfl)
          simp [go_sem, ts]
          exact ⟨Below.refl _ _, rfl⟩
        | 1, _ =>
          simp only [gTA, gCZ, gCS, gSI] at ho
          subst ho
          have ts : ρ (.tmp 16) = .pointer (some ⟨w.heap.size, 1, none⟩) := hdep 0 16 (by kernel_rfl) (by kernel_rfl)
          simp [go_sem, ts, y1]
          exact ⟨Below.refl _ _, rfl⟩
        | 2, _ =>
          simp only [gTA, gCZ, gCS, gSI] at ho
          subst ho
          have ts : ρ (.tmp 4) = .int .i64 (j : Int) := hfr 4 (by kernel_rfl)
          simp [go_sem, ts]
          exact ⟨Below.refl _ _, rfl⟩
        | 3, _ =>
          simp only [gTA, gCZ, gCS, gSI] at ho
          subst ho
          have t0 : ρ (.tmp 17) = .slice (some ⟨eb, eo, none⟩) n c := hdep 1 17 (by kernel_rfl) (by kernel_rfl)
          have t1 : ρ (.tmp 18) = .int .i64 (j : Int) := hdep 2 18 (by kernel_rfl) (by kernel_rfl)
          simp [go_sem, t0, t1, hkl]
          exact ⟨Below.refl _ _, rfl⟩
        | 4, _ =>
          simp only [gTA, gCZ, gCS, gSI] at ho
          subst ho
          have ts : ρ (.tmp 19) = .pointer (some ⟨eb, eo + j * 11, none⟩) := hdep 3 19 (by kernel_rfl) (by kernel_rfl)
          simp [go_sem, ts]
          exact ⟨Below.refl _ _, rfl⟩
        | 5, _ =>
          simp only [gTA, gCZ, gCS, gSI] at ho
          subst ho
          have ts : ρ (.tmp 20) = .pointer (some ⟨eb, eo + j * 11, none⟩) := hdep 4 20 (by kernel_rfl) (by kernel_rfl)
          simp [go_sem, ts, m0]
          exact ⟨Below.refl _ _, rfl⟩
        | 6, _ =>
          simp only [gTA, gCZ, gCS, gSI] at ho
          subst ho
          have ts : ρ (.tmp 1) = .pointer (some ⟨w.heap.size, 0, none⟩) := hfr 1 (by kernel_rfl)
          simp [go_sem, ts]
          exact ⟨Below.refl _ _, rfl⟩
        | 7, _ =>
          simp only [gTA, gCZ, gCS, gSI] at ho
          subst ho
          have ts : ρ (.tmp 22) = .pointer (some ⟨w.heap.size, 1, none⟩) := hdep 6 22 (by kernel_rfl) (by kernel_rfl)
          simp [go_sem, ts, y1]
          exact ⟨Below.refl _ _, rfl⟩
        | 8, _ =>
          simp only [gTA, gCZ, gCS, gSI] at ho
          subst ho
          have ts : ρ (.tmp 4) = .int .i64 (j : Int) := hfr 4 (by kernel_rfl)
          simp [go_sem, ts]
          exact ⟨Below.refl _ _, rfl⟩
        | 9, _ =>
          simp only [gTA, gCZ, gCS, gSI] at ho
          subst ho
          have t0 : ρ (.tmp 23) = .slice (some ⟨eb, eo, none⟩) n c := hdep 7 23 (by kernel_rfl) (by kernel_rfl)
          have t1 : ρ (.tmp 24) = .int .i64 (j : Int) := hdep 8 24 (by kernel_rfl) (by kernel_rfl)
          simp [go_sem, t0, t1, hkl]
          exact ⟨Below.refl _ _, rfl⟩
        | 10, _ =>
          simp only [gTA, gCZ, gCS, gSI] at ho
          subst ho
          have ts : ρ (.tmp 25) = .pointer (some ⟨eb, eo + j * 11, none⟩) := hdep 9 25 (by kernel_rfl) (by kernel_rfl)
          simp [go_sem, ts]
          exact ⟨Below.refl _ _, rfl⟩
        | 11, _ =>
          simp only [gTA, gCZ, gCS, gSI] at ho
          subst ho
          have ts : ρ (.tmp 26) = .pointer (some ⟨eb, eo + j * 11 + 10, none⟩) := hdep 10 26 (by kernel_rfl) (by kernel_rfl)
          simp [go_sem, ts, m10]
          exact ⟨Below.refl _ _, rfl⟩
        | 12, _ =>
          simp only [gTA, gCZ, gCS, gSI] at ho
          subst ho
          have t0 : ρ (.tmp 21) = .int .u8 ki := hdep 5 21 (by kernel_rfl) (by kernel_rfl)
          have t1 : ρ (.tmp 27) = .int .i64 pl := hdep 11 27 (by kernel_rfl) (by kernel_rfl)
          simp [go_sem, t0, t1]
          exact ⟨Below.refl _ _, rfl⟩
        | 13, _ =>
          simp only [gTA, gCZ, gCS, gSI] at ho
          subst ho
          simp [go_sem]
          exact ⟨(Below.refl _ _).alloc (Nat.le_refl _) _, w'.heap.size, rfl, hb.size, blkA_new 45 w' #[.int .u8 0, .string ⟨#[]⟩, .string ⟨#[]⟩, .slice none 0 0, .string ⟨#[]⟩, .int .i64 0, .int .i64 0, .string ⟨#[]⟩, .int .i64 0, .int .i64 0, .int .i64 0]⟩
      · intro V W9 q9 hS
        have e0 : V 0 = .pointer (some ⟨w.heap.size, 1, none⟩) := hS 0 (by decide)
        have e1 : V 1 = .slice (some ⟨eb, eo, none⟩) n c := hS 1 (by decide)
        have e2 : V 2 = .int .i64 (j : Int) := hS 2 (by decide)
        have e3 : V 3 = .pointer (some ⟨eb, eo + j * 11, none⟩) := hS 3 (by decide)
        have e4 : V 4 = .pointer (some ⟨eb, eo + j * 11, none⟩) := hS 4 (by decide)
        have e5 : V 5 = .int .u8 ki := hS 5 (by decide)
        have e6 : V 6 = .pointer (some ⟨w.heap.size, 1, none⟩) := hS 6 (by decide)
        have e7 : V 7 = .slice (some ⟨eb, eo, none⟩) n c := hS 7 (by decide)
        have e8 : V 8 = .int .i64 (j : Int) := hS 8 (by decide)
        have e9 : V 9 = .pointer (some ⟨eb, eo + j * 11, none⟩) := hS 9 (by decide)
        have e10 : V 10 = .pointer (some ⟨eb, eo + j * 11 + 10, none⟩) := hS 10 (by decide)
        have e11 : V 11 = .int .i64 pl := hS 11 (by decide)
        have e12 : V 12 = .agg #[.int .u8 ki, .string ⟨#[]⟩, .string ⟨#[]⟩, .slice none 0 0, .string ⟨#[]⟩, .int .i64 0, .int .i64 0, .string ⟨#[]⟩, .int .i64 0, .int .i64 0, .int .i64 pl] := hS 12 (by decide)
        obtain ⟨bx, e13, hxw, xX⟩ : NewC wr.heap.size 45 #[.int .u8 0, .string ⟨#[]⟩, .string ⟨#[]⟩, .slice none 0 0, .string ⟨#[]⟩, .int .i64 0, .int .i64 0, .string ⟨#[]⟩, .int .i64 0, .int .i64 0, .int .i64 0] W9 (V 13) := hS 13 (by decide)
        simp only [List.drop_succ_cons, List.drop_zero, List.take_succ_cons, List.take_zero, puts, e0, e1, e2, e3, e4, e5, e6, e7, e8, e9, e10, e11, e12, e13]
        clear hS e0 e1 e2 e3 e4 e5 e6 e7 e8 e9 e10 e11 e12 e13 V
        simp only [Act.put, List.setIfInBounds_toArray, List.set_cons_zero, List.set_cons_succ]
        have XX := hiddenG xX
        have Q9 := hiddenG q9
        clear xX q9 m0 m10 y1
        go_upto_region 6 with (refine wpList_storeW _ rfl 45 (.tmp 5) (.tmp 28) rfl rfl bx 45 _ _ rfl rfl XX.out sizI rfl rfl ?_; intro V5 hN hU; have XB5 := hiddenG hN; have U5 := hiddenG hU; clear hN hU)
        have BV5 := hiddenG (Q9.out.trans (U5.out.below hxw Q9.out.size))
        clear XX Q9 U5
        rcases HK4.out with hK | hK | hK | hK
        all_goals clear HK4
        · have hke : ki = 1 := hK
          subst hke
          have y1 := cellG BV5.out y1r.out
          have z0 := XB5.out.cell (k := 0) rfl
          simp only [List.getElem_toArray, List.getElem_cons_zero] at z0
          have z1 := XB5.out.cell (k := 1) rfl
          simp only [List.getElem_toArray, List.getElem_cons_zero, List.getElem_cons_succ] at z1
          have fz1 := XB5.out.frozen 1
          have m1 := cellG BV5.out m1r.out
          go_upto_region 8 with fail
          have x9 := XB5.out.set 1 (.string (str xn))
          simp only [List.setIfInBounds_toArray, List.set_cons_zero, List.set_cons_succ] at x9
          have b9 := (BV5.out).setCell (p := ⟨bx, 1, none⟩) hxw (.string (str xn))
          generalize V5.setCell ⟨bx, 1, none⟩ (.string (str xn)) = V6 at *
          have XB6 := hiddenG x9
          have BV6 := hiddenG b9
          clear x9 b9 y1 z0 XB5 z1 fz1 m1
          have y1 := cellG BV6.out y1r.out
          have z0 := XB6.out.cell (k := 0) rfl
          simp only [List.getElem_toArray, List.getElem_cons_zero] at z0
          have z2 := XB6.out.cell (k := 2) rfl
          simp only [List.getElem_toArray, List.getElem_cons_zero, List.getElem_cons_succ] at z2
          have fz2 := XB6.out.frozen 2
          have m2 := cellG BV6.out m2r.out
          go_upto_region 10 with fail
          have x9 := XB6.out.set 2 (.string (str xt))
          simp only [List.setIfInBounds_toArray, List.set_cons_zero, List.set_cons_succ] at x9
          have b9 := (BV6.out).setCell (p := ⟨bx, 2, none⟩) hxw (.string (str xt))
          generalize V6.setCell ⟨bx, 2, none⟩ (.string (str xt)) = V7 at *
          have XB7 := hiddenG x9
          have BV7 := hiddenG b9
          clear x9 b9 y1 z0 XB6 z2 fz2 m2
          have y1 := cellG BV7.out y1r.out
          have z0 := XB7.out.cell (k := 0) rfl
          simp only [List.getElem_toArray, List.getElem_cons_zero] at z0
          have m3 := cellG BV7.out m3r.out
          go_upto_region 12 with (go_at_call 38; (with_reducible refine (IN.out V7 (BW.out.trans (BV7.out.mono BW.out.size))).mono ?_); rintro e V7i ⟨ip, ic, rfl, hcr, b9⟩; have HCR := hiddenG hcr; have XBi := hiddenG (XB7.out.below b9); have BVi := hiddenG (BV7.out.trans (b9.mono BV7.out.size)); have hlo : bx < V7.heap.size := XB7.out.lt; clear hcr b9 y1 z0 m3; have z3 := XBi.out.cell (k := 3) rfl; simp only [List.getElem_toArray, List.getElem_cons_zero, List.getElem_cons_succ] at z3; have fz3 := XBi.out.frozen 3)
          have x9 := XBi.out.set 3 (.slice ip ns.length ic)
          simp only [List.setIfInBounds_toArray, List.set_cons_zero, List.set_cons_succ] at x9
          have b9 := BVi.out.setCell (p := ⟨bx, 3, none⟩) hxw (.slice ip ns.length ic)
          have i9 : Ints V7.heap.size (V7i.setCell ⟨bx, 3, none⟩ (.slice ip ns.length ic)) (.slice ip ns.length ic) ns := Ints.put (I := bx) (k := 3) HCR.out hlo
          generalize V7i.setCell ⟨bx, 3, none⟩ (.slice ip ns.length ic) = V8 at *
          have XB8 := hiddenG x9
          have BV8 := hiddenG b9
          have NU := hiddenG i9
          clear x9 b9 i9 z3 fz3 XBi BVi HCR XB7 
          have FV := hiddenG (FX.out.later BV8.out)
          have INU : Hid (Ints W0.heap.size V8 (.slice ip ns.length ic) ns) := NU.out.mono (Nat.le_trans FX.out.chg.size BV7.out.size)
          have HNV : Hid (∀ p ∈ M, Ints W0.heap.size V8 p.2 p.1.nums) := fun p hp => (HN.out p hp).below BV8.out
          have bv := (Below.refl V8.heap.size V8).alloc (Nat.le_refl _) (.cells #[.int .u8 1, .string (str xn), .string (str xt), .slice ip ns.length ic, .string ⟨#[]⟩, .int .i64 0, .int .i64 0, .string ⟨#[]⟩, .int .i64 0, .int .i64 0, .int .i64 pl] 45)
          have RV := hiddenG (owns_below FV.out.row bv)
          have BV := hiddenG bv
          have CV : Hid (∀ i u, (itP (⟨1, xn, xt, ns, noPlc, noPlc, pl⟩, .slice ip ns.length ic))[i]? = some u → (V8.alloc (.cells #[.int .u8 1, .string (str xn), .string (str xt), .slice ip ns.length ic, .string ⟨#[]⟩, .int .i64 0, .int .i64 0, .string ⟨#[]⟩, .int .i64 0, .int .i64 0, .int .i64 pl] 45)).cell? ((⟨V8.heap.size, 0, none⟩ : Addr).add i) = some u) := row11 V8 45 (.int .u8 1) (.string (str xn)) (.string (str xt)) (.slice ip ns.length ic) (.string ⟨#[]⟩) (.int .i64 0) (.int .i64 0) (.string ⟨#[]⟩) (.int .i64 0) (.int .i64 0) (.int .i64 pl)
          have LBV : Hid (W0.heap.size ≤ (V8.alloc (.cells #[.int .u8 1, .string (str xn), .string (str xt), .slice ip ns.length ic, .string ⟨#[]⟩, .int .i64 0, .int .i64 0, .string ⟨#[]⟩, .int .i64 0, .int .i64 0, .int .i64 pl] 45)).heap.size) := Nat.le_trans FV.out.chg.size bv.size
          clear bv
          have o1 := FV.out.blk.cell (k := 1) rfl
          simp only [List.getElem_toArray, List.getElem_cons_zero, List.getElem_cons_succ] at o1
          have z0 := XB8.out.cell (k := 0) rfl
          have z1 := XB8.out.cell (k := 1) rfl
          have z2 := XB8.out.cell (k := 2) rfl
          have z3 := XB8.out.cell (k := 3) rfl
          have z4 := XB8.out.cell (k := 4) rfl
          have z5 := XB8.out.cell (k := 5) rfl
          have z6 := XB8.out.cell (k := 6) rfl
          have z7 := XB8.out.cell (k := 7) rfl
          have z8 := XB8.out.cell (k := 8) rfl
          have z9 := XB8.out.cell (k := 9) rfl
          have z10 := XB8.out.cell (k := 10) rfl
          simp only [List.getElem_toArray, List.getElem_cons_zero, List.getElem_cons_succ] at z0 z1 z2 z3 z4 z5 z6 z7 z8 z9 z10
          go_wp2_with (at_builtin; refine wpList_append_told _ rfl _ _ 22 rfl W0.heap.size 45 i0 _ 11 136 Try.underlying22 HJ.out HJ0.out HJ1.out HJ2.out rfl (by decide) (.slice d M.length kk) M.length _ rfl RV.out ⟨V8.heap.size, 0, none⟩ 1 1 (by decide) (itP (⟨1, xn, xt, ns, noPlc, noPlc, pl⟩, .slice ip ns.length ic)) rfl rfl CV.out (itP_one _ _ _ _) (by unfold maxLen; omega) (by omega) LBV.out ?_; intro zv u1 hown htold; have hG : ElA (fun _ es => es = itP (⟨1, xn, xt, ns, noPlc, noPlc, pl⟩, .slice ip ns.length ic)) V8 W0.heap.size 45 11 (.slice d M.length kk) M.length _ u1 zv := ⟨itP (⟨1, xn, xt, ns, noPlc, noPlc, pl⟩, .slice ip ns.length ic), _, u1, ⟨BV.out, rfl, hown, htold⟩, Below.refl _ _⟩; obtain ⟨gz, cz, rfl⟩ := hG.shape; have hF := appE_store (f := 1) hG FV.out.blk FV.out.far; have AE := hiddenG hF.1; have o1 := hF.2.cell (k := 1) rfl; have fz := hF.2.frozen 1; simp only [List.getElem_toArray, List.getElem_cons_zero, List.getElem_cons_succ] at o1; clear hown htold hG hF)
          have NS := hiddenG (fun r l hh => FilS.ints FV.out AE.out (r := r) (ns := l) hh)
          obtain ⟨g9, k9, F9⟩ := FV.out.step AE.out
          have F9h := hiddenG F9
          clear F9 AE
          go_roundg (n - (j + 1))
          case measure => omega
          case rel =>
            refine ⟨j + 1, some ⟨g9, 0, none⟩, k9, M ++ [(⟨1, xn, xt, ns, noPlc, noPlc, pl⟩, .slice ip ns.length ic)], by omega, rfl, by first | rfl | go_num, ?_, ?_, ?_⟩
            · rw [TK.out, List.map_append, List.map_append, HM.out]; rfl
            · intro p hp
              rcases List.mem_append.1 hp with h | h
              · exact NS.out _ _ (HNV.out p h)
              · rw [List.mem_singleton.1 h]; exact NS.out _ _ INU.out
            · rw [List.length_append, List.flatMap_append, List.flatMap_singleton]
              exact F9h.out
        · have hke : ki = 2 := hK
          subst hke
          have y1 := cellG BV5.out y1r.out
          have z0 := XB5.out.cell (k := 0) rfl
          simp only [List.getElem_toArray, List.getElem_cons_zero] at z0
          have m3 := cellG BV5.out m3r.out
          go_upto_region 12 with (go_at_call 38; (with_reducible refine (IN.out V5 (BW.out.trans (BV5.out.mono BW.out.size))).mono ?_); rintro e V5i ⟨ip, ic, rfl, hcr, b9⟩; have HCR := hiddenG hcr; have XBi := hiddenG (XB5.out.below b9); have BVi := hiddenG (BV5.out.trans (b9.mono BV5.out.size)); have hlo : bx < V5.heap.size := XB5.out.lt; clear hcr b9 y1 z0 m3; have z3 := XBi.out.cell (k := 3) rfl; simp only [List.getElem_toArray, List.getElem_cons_zero, List.getElem_cons_succ] at z3; have fz3 := XBi.out.frozen 3)
          have x9 := XBi.out.set 3 (.slice ip ns.length ic)
          simp only [List.setIfInBounds_toArray, List.set_cons_zero, List.set_cons_succ] at x9
          have b9 := BVi.out.setCell (p := ⟨bx, 3, none⟩) hxw (.slice ip ns.length ic)
          have i9 : Ints V5.heap.size (V5i.setCell ⟨bx, 3, none⟩ (.slice ip ns.length ic)) (.slice ip ns.length ic) ns := Ints.put (I := bx) (k := 3) HCR.out hlo
          generalize V5i.setCell ⟨bx, 3, none⟩ (.slice ip ns.length ic) = V6 at *
          have XB6 := hiddenG x9
          have BV6 := hiddenG b9
          have NU := hiddenG i9
          clear x9 b9 i9 z3 fz3 XBi BVi HCR XB5 
          have y1 := cellG BV6.out y1r.out
          have z0 := XB6.out.cell (k := 0) rfl
          simp only [List.getElem_toArray, List.getElem_cons_zero] at z0
          have z4 := XB6.out.cell (k := 4) rfl
          simp only [List.getElem_toArray, List.getElem_cons_zero, List.getElem_cons_succ] at z4
          have fz4 := XB6.out.frozen 4
          have m4 := cellG BV6.out m4r.out
          have z5 := XB6.out.cell (k := 5) rfl
          simp only [List.getElem_toArray, List.getElem_cons_zero, List.getElem_cons_succ] at z5
          have fz5 := XB6.out.frozen 5
          have m5 := cellG BV6.out m5r.out
          have z6 := XB6.out.cell (k := 6) rfl
          simp only [List.getElem_toArray, List.getElem_cons_zero, List.getElem_cons_succ] at z6
          have fz6 := XB6.out.frozen 6
          have m6 := cellG BV6.out m6r.out
          go_upto_region 14 with fail
          have x9 := XB6.out.set 4 (.string (str fn))
          have x9 := (x9.set 5 (.int .i64 fp)).set 6 (.int .i64 fa)
          simp only [List.setIfInBounds_toArray, List.set_cons_zero, List.set_cons_succ] at x9
          have b9 := (((BV6.out).setCell (p := ⟨bx, 4, none⟩) hxw (.string (str fn))).setCell (p := ⟨bx, 5, none⟩) hxw (.int .i64 fp)).setCell (p := ⟨bx, 6, none⟩) hxw (.int .i64 fa)
          have i9 := (Ints.put (I := bx) (k := 6) (u := .int .i64 fa) (Ints.put (I := bx) (k := 5) (u := .int .i64 fp) (Ints.put (I := bx) (k := 4) (u := .string (str fn)) NU.out hlo) hlo) hlo)
          generalize (((V6.setCell ⟨bx, 4, none⟩ (.string (str fn))).setCell ⟨bx, 5, none⟩ (.int .i64 fp)).setCell ⟨bx, 6, none⟩ (.int .i64 fa)) = V7 at *
          have XB7 := hiddenG x9
          have BV7 := hiddenG b9
          clear NU
          have NU := hiddenG i9
          clear i9
          clear x9 b9 y1 z0 XB6 z4 fz4 m4 z5 fz5 m5 z6 fz6 m6
          have y1 := cellG BV7.out y1r.out
          have z0 := XB7.out.cell (k := 0) rfl
          simp only [List.getElem_toArray, List.getElem_cons_zero] at z0
          have z7 := XB7.out.cell (k := 7) rfl
          simp only [List.getElem_toArray, List.getElem_cons_zero, List.getElem_cons_succ] at z7
          have fz7 := XB7.out.frozen 7
          have m7 := cellG BV7.out m7r.out
          have z8 := XB7.out.cell (k := 8) rfl
          simp only [List.getElem_toArray, List.getElem_cons_zero, List.getElem_cons_succ] at z8
          have fz8 := XB7.out.frozen 8
          have m8 := cellG BV7.out m8r.out
          have z9 := XB7.out.cell (k := 9) rfl
          simp only [List.getElem_toArray, List.getElem_cons_zero, List.getElem_cons_succ] at z9
          have fz9 := XB7.out.frozen 9
          have m9 := cellG BV7.out m9r.out
          go_upto_region 16 with fail
          have x9 := XB7.out.set 7 (.string (str tn))
          have x9 := (x9.set 8 (.int .i64 tp)).set 9 (.int .i64 ta)
          simp only [List.setIfInBounds_toArray, List.set_cons_zero, List.set_cons_succ] at x9
          have b9 := (((BV7.out).setCell (p := ⟨bx, 7, none⟩) hxw (.string (str tn))).setCell (p := ⟨bx, 8, none⟩) hxw (.int .i64 tp)).setCell (p := ⟨bx, 9, none⟩) hxw (.int .i64 ta)
          have i9 := (Ints.put (I := bx) (k := 9) (u := .int .i64 ta) (Ints.put (I := bx) (k := 8) (u := .int .i64 tp) (Ints.put (I := bx) (k := 7) (u := .string (str tn)) NU.out hlo) hlo) hlo)
          generalize (((V7.setCell ⟨bx, 7, none⟩ (.string (str tn))).setCell ⟨bx, 8, none⟩ (.int .i64 tp)).setCell ⟨bx, 9, none⟩ (.int .i64 ta)) = V8 at *
          have XB8 := hiddenG x9
          have BV8 := hiddenG b9
          clear NU
          have NU := hiddenG i9
          clear i9
          clear x9 b9 y1 z0 XB7 z7 fz7 m7 z8 fz8 m8 z9 fz9 m9
          have FV := hiddenG (FX.out.later BV8.out)
          have INU : Hid (Ints W0.heap.size V8 (.slice ip ns.length ic) ns) := NU.out.mono (Nat.le_trans FX.out.chg.size BV5.out.size)
          have HNV : Hid (∀ p ∈ M, Ints W0.heap.size V8 p.2 p.1.nums) := fun p hp => (HN.out p hp).below BV8.out
          have bv := (Below.refl V8.heap.size V8).alloc (Nat.le_refl _) (.cells #[.int .u8 2, .string ⟨#[]⟩, .string ⟨#[]⟩, .slice ip ns.length ic, .string (str fn), .int .i64 fp, .int .i64 fa, .string (str tn), .int .i64 tp, .int .i64 ta, .int .i64 pl] 45)
          have RV := hiddenG (owns_below FV.out.row bv)
          have BV := hiddenG bv
          have CV : Hid (∀ i u, (itP (⟨2, [], [], ns, ⟨fn, fp, fa⟩, ⟨tn, tp, ta⟩, pl⟩, .slice ip ns.length ic))[i]? = some u → (V8.alloc (.cells #[.int .u8 2, .string ⟨#[]⟩, .string ⟨#[]⟩, .slice ip ns.length ic, .string (str fn), .int .i64 fp, .int .i64 fa, .string (str tn), .int .i64 tp, .int .i64 ta, .int .i64 pl] 45)).cell? ((⟨V8.heap.size, 0, none⟩ : Addr).add i) = some u) := row11 V8 45 (.int .u8 2) (.string ⟨#[]⟩) (.string ⟨#[]⟩) (.slice ip ns.length ic) (.string (str fn)) (.int .i64 fp) (.int .i64 fa) (.string (str tn)) (.int .i64 tp) (.int .i64 ta) (.int .i64 pl)
          have LBV : Hid (W0.heap.size ≤ (V8.alloc (.cells #[.int .u8 2, .string ⟨#[]⟩, .string ⟨#[]⟩, .slice ip ns.length ic, .string (str fn), .int .i64 fp, .int .i64 fa, .string (str tn), .int .i64 tp, .int .i64 ta, .int .i64 pl] 45)).heap.size) := Nat.le_trans FV.out.chg.size bv.size
          clear bv
          have o1 := FV.out.blk.cell (k := 1) rfl
          simp only [List.getElem_toArray, List.getElem_cons_zero, List.getElem_cons_succ] at o1
          have z0 := XB8.out.cell (k := 0) rfl
          have z1 := XB8.out.cell (k := 1) rfl
          have z2 := XB8.out.cell (k := 2) rfl
          have z3 := XB8.out.cell (k := 3) rfl
          have z4 := XB8.out.cell (k := 4) rfl
          have z5 := XB8.out.cell (k := 5) rfl
          have z6 := XB8.out.cell (k := 6) rfl
          have z7 := XB8.out.cell (k := 7) rfl
          have z8 := XB8.out.cell (k := 8) rfl
          have z9 := XB8.out.cell (k := 9) rfl
          have z10 := XB8.out.cell (k := 10) rfl
          simp only [List.getElem_toArray, List.getElem_cons_zero, List.getElem_cons_succ] at z0 z1 z2 z3 z4 z5 z6 z7 z8 z9 z10
          go_wp2_with (at_builtin; refine wpList_append_told _ rfl _ _ 22 rfl W0.heap.size 45 i0 _ 11 136 Try.underlying22 HJ.out HJ0.out HJ1.out HJ2.out rfl (by decide) (.slice d M.length kk) M.length _ rfl RV.out ⟨V8.heap.size, 0, none⟩ 1 1 (by decide) (itP (⟨2, [], [], ns, ⟨fn, fp, fa⟩, ⟨tn, tp, ta⟩, pl⟩, .slice ip ns.length ic)) rfl rfl CV.out (itP_one _ _ _ _) (by unfold maxLen; omega) (by omega) LBV.out ?_; intro zv u1 hown htold; have hG : ElA (fun _ es => es = itP (⟨2, [], [], ns, ⟨fn, fp, fa⟩, ⟨tn, tp, ta⟩, pl⟩, .slice ip ns.length ic)) V8 W0.heap.size 45 11 (.slice d M.length kk) M.length _ u1 zv := ⟨itP (⟨2, [], [], ns, ⟨fn, fp, fa⟩, ⟨tn, tp, ta⟩, pl⟩, .slice ip ns.length ic), _, u1, ⟨BV.out, rfl, hown, htold⟩, Below.refl _ _⟩; obtain ⟨gz, cz, rfl⟩ := hG.shape; have hF := appE_store (f := 1) hG FV.out.blk FV.out.far; have AE := hiddenG hF.1; have o1 := hF.2.cell (k := 1) rfl; have fz := hF.2.frozen 1; simp only [List.getElem_toArray, List.getElem_cons_zero, List.getElem_cons_succ] at o1; clear hown htold hG hF)
          have NS := hiddenG (fun r l hh => FilS.ints FV.out AE.out (r := r) (ns := l) hh)
          obtain ⟨g9, k9, F9⟩ := FV.out.step AE.out
          have F9h := hiddenG F9
          clear F9 AE
          go_roundg (n - (j + 1))
          case measure => omega
          case rel =>
            refine ⟨j + 1, some ⟨g9, 0, none⟩, k9, M ++ [(⟨2, [], [], ns, ⟨fn, fp, fa⟩, ⟨tn, tp, ta⟩, pl⟩, .slice ip ns.length ic)], by omega, rfl, by first | rfl | go_num, ?_, ?_, ?_⟩
            · rw [TK.out, List.map_append, List.map_append, HM.out]; rfl
            · intro p hp
              rcases List.mem_append.1 hp with h | h
              · exact NS.out _ _ (HNV.out p h)
              · rw [List.mem_singleton.1 h]; exact NS.out _ _ INU.out
            · rw [List.length_append, List.flatMap_append, List.flatMap_singleton]
              exact F9h.out
        · have hke : ki = 3 := hK
          subst hke
          have y1 := cellG BV5.out y1r.out
          have z0 := XB5.out.cell (k := 0) rfl
          simp only [List.getElem_toArray, List.getElem_cons_zero] at z0
          have z1 := XB5.out.cell (k := 1) rfl
          simp only [List.getElem_toArray, List.getElem_cons_zero, List.getElem_cons_succ] at z1
          have fz1 := XB5.out.frozen 1
          have m1 := cellG BV5.out m1r.out
          go_upto_region 8 with fail
          have x9 := XB5.out.set 1 (.string (str xn))
          simp only [List.setIfInBounds_toArray, List.set_cons_zero, List.set_cons_succ] at x9
          have b9 := (BV5.out).setCell (p := ⟨bx, 1, none⟩) hxw (.string (str xn))
          generalize V5.setCell ⟨bx, 1, none⟩ (.string (str xn)) = V6 at *
          have XB6 := hiddenG x9
          have BV6 := hiddenG b9
          clear x9 b9 y1 z0 XB5 z1 fz1 m1
          have y1 := cellG BV6.out y1r.out
          have z0 := XB6.out.cell (k := 0) rfl
          simp only [List.getElem_toArray, List.getElem_cons_zero] at z0
          have z7 := XB6.out.cell (k := 7) rfl
          simp only [List.getElem_toArray, List.getElem_cons_zero, List.getElem_cons_succ] at z7
          have fz7 := XB6.out.frozen 7
          have m7 := cellG BV6.out m7r.out
          have z8 := XB6.out.cell (k := 8) rfl
          simp only [List.getElem_toArray, List.getElem_cons_zero, List.getElem_cons_succ] at z8
          have fz8 := XB6.out.frozen 8
          have m8 := cellG BV6.out m8r.out
          have z9 := XB6.out.cell (k := 9) rfl
          simp only [List.getElem_toArray, List.getElem_cons_zero, List.getElem_cons_succ] at z9
          have fz9 := XB6.out.frozen 9
          have m9 := cellG BV6.out m9r.out
          go_upto_region 16 with fail
          have x9 := XB6.out.set 7 (.string (str tn))
          have x9 := (x9.set 8 (.int .i64 tp)).set 9 (.int .i64 ta)
          simp only [List.setIfInBounds_toArray, List.set_cons_zero, List.set_cons_succ] at x9
          have b9 := (((BV6.out).setCell (p := ⟨bx, 7, none⟩) hxw (.string (str tn))).setCell (p := ⟨bx, 8, none⟩) hxw (.int .i64 tp)).setCell (p := ⟨bx, 9, none⟩) hxw (.int .i64 ta)
          generalize (((V6.setCell ⟨bx, 7, none⟩ (.string (str tn))).setCell ⟨bx, 8, none⟩ (.int .i64 tp)).setCell ⟨bx, 9, none⟩ (.int .i64 ta)) = V7 at *
          have XB7 := hiddenG x9
          have BV7 := hiddenG b9
          clear x9 b9 y1 z0 XB6 z7 fz7 m7 z8 fz8 m8 z9 fz9 m9
          have FV := hiddenG (FX.out.later BV7.out)
          have INU : Hid (Ints W0.heap.size V7 (.slice none 0 0) []) := World.ownsRow_nil _ _ _ _
          have HNV : Hid (∀ p ∈ M, Ints W0.heap.size V7 p.2 p.1.nums) := fun p hp => (HN.out p hp).below BV7.out
          have bv := (Below.refl V7.heap.size V7).alloc (Nat.le_refl _) (.cells #[.int .u8 3, .string (str xn), .string ⟨#[]⟩, .slice none 0 0, .string ⟨#[]⟩, .int .i64 0, .int .i64 0, .string (str tn), .int .i64 tp, .int .i64 ta, .int .i64 pl] 45)
          have RV := hiddenG (owns_below FV.out.row bv)
          have BV := hiddenG bv
          have CV : Hid (∀ i u, (itP (⟨3, xn, [], [], noPlc, ⟨tn, tp, ta⟩, pl⟩, .slice none 0 0))[i]? = some u → (V7.alloc (.cells #[.int .u8 3, .string (str xn), .string ⟨#[]⟩, .slice none 0 0, .string ⟨#[]⟩, .int .i64 0, .int .i64 0, .string (str tn), .int .i64 tp, .int .i64 ta, .int .i64 pl] 45)).cell? ((⟨V7.heap.size, 0, none⟩ : Addr).add i) = some u) := row11 V7 45 (.int .u8 3) (.string (str xn)) (.string ⟨#[]⟩) (.slice none 0 0) (.string ⟨#[]⟩) (.int .i64 0) (.int .i64 0) (.string (str tn)) (.int .i64 tp) (.int .i64 ta) (.int .i64 pl)
          have LBV : Hid (W0.heap.size ≤ (V7.alloc (.cells #[.int .u8 3, .string (str xn), .string ⟨#[]⟩, .slice none 0 0, .string ⟨#[]⟩, .int .i64 0, .int .i64 0, .string (str tn), .int .i64 tp, .int .i64 ta, .int .i64 pl] 45)).heap.size) := Nat.le_trans FV.out.chg.size bv.size
          clear bv
          have o1 := FV.out.blk.cell (k := 1) rfl
          simp only [List.getElem_toArray, List.getElem_cons_zero, List.getElem_cons_succ] at o1
          have z0 := XB7.out.cell (k := 0) rfl
          have z1 := XB7.out.cell (k := 1) rfl
          have z2 := XB7.out.cell (k := 2) rfl
          have z3 := XB7.out.cell (k := 3) rfl
          have z4 := XB7.out.cell (k := 4) rfl
          have z5 := XB7.out.cell (k := 5) rfl
          have z6 := XB7.out.cell (k := 6) rfl
          have z7 := XB7.out.cell (k := 7) rfl
          have z8 := XB7.out.cell (k := 8) rfl
          have z9 := XB7.out.cell (k := 9) rfl
          have z10 := XB7.out.cell (k := 10) rfl
          simp only [List.getElem_toArray, List.getElem_cons_zero, List.getElem_cons_succ] at z0 z1 z2 z3 z4 z5 z6 z7 z8 z9 z10
          go_wp2_with (at_builtin; refine wpList_append_told _ rfl _ _ 22 rfl W0.heap.size 45 i0 _ 11 136 Try.underlying22 HJ.out HJ0.out HJ1.out HJ2.out rfl (by decide) (.slice d M.length kk) M.length _ rfl RV.out ⟨V7.heap.size, 0, none⟩ 1 1 (by decide) (itP (⟨3, xn, [], [], noPlc, ⟨tn, tp, ta⟩, pl⟩, .slice none 0 0)) rfl rfl CV.out (itP_one _ _ _ _) (by unfold maxLen; omega) (by omega) LBV.out ?_; intro zv u1 hown htold; have hG : ElA (fun _ es => es = itP (⟨3, xn, [], [], noPlc, ⟨tn, tp, ta⟩, pl⟩, .slice none 0 0)) V7 W0.heap.size 45 11 (.slice d M.length kk) M.length _ u1 zv := ⟨itP (⟨3, xn, [], [], noPlc, ⟨tn, tp, ta⟩, pl⟩, .slice none 0 0), _, u1, ⟨BV.out, rfl, hown, htold⟩, Below.refl _ _⟩; obtain ⟨gz, cz, rfl⟩ := hG.shape; have hF := appE_store (f := 1) hG FV.out.blk FV.out.far; have AE := hiddenG hF.1; have o1 := hF.2.cell (k := 1) rfl; have fz := hF.2.frozen 1; simp only [List.getElem_toArray, List.getElem_cons_zero, List.getElem_cons_succ] at o1; clear hown htold hG hF)
          have NS := hiddenG (fun r l hh => FilS.ints FV.out AE.out (r := r) (ns := l) hh)
          obtain ⟨g9, k9, F9⟩ := FV.out.step AE.out
          have F9h := hiddenG F9
          clear F9 AE
          go_roundg (n - (j + 1))
          case measure => omega
          case rel =>
            refine ⟨j + 1, some ⟨g9, 0, none⟩, k9, M ++ [(⟨3, xn, [], [], noPlc, ⟨tn, tp, ta⟩, pl⟩, .slice none 0 0)], by omega, rfl, by first | rfl | go_num, ?_, ?_, ?_⟩
            · rw [TK.out, List.map_append, List.map_append, HM.out]; rfl
            · intro p hp
              rcases List.mem_append.1 hp with h | h
              · exact NS.out _ _ (HNV.out p h)
              · rw [List.mem_singleton.1 h]; exact NS.out _ _ INU.out
            · rw [List.length_append, List.flatMap_append, List.flatMap_singleton]
              exact F9h.out
        · have hke : ki = 4 := hK
          subst hke
          have y1 := cellG BV5.out y1r.out
          have z0 := XB5.out.cell (k := 0) rfl
          simp only [List.getElem_toArray, List.getElem_cons_zero] at z0
          have z1 := XB5.out.cell (k := 1) rfl
          simp only [List.getElem_toArray, List.getElem_cons_zero, List.getElem_cons_succ] at z1
          have fz1 := XB5.out.frozen 1
          have m1 := cellG BV5.out m1r.out
          go_upto_region 8 with fail
          have x9 := XB5.out.set 1 (.string (str xn))
          simp only [List.setIfInBounds_toArray, List.set_cons_zero, List.set_cons_succ] at x9
          have b9 := (BV5.out).setCell (p := ⟨bx, 1, none⟩) hxw (.string (str xn))
          generalize V5.setCell ⟨bx, 1, none⟩ (.string (str xn)) = V6 at *
          have XB6 := hiddenG x9
          have BV6 := hiddenG b9
          clear x9 b9 y1 z0 XB5 z1 fz1 m1
          have y1 := cellG BV6.out y1r.out
          have z0 := XB6.out.cell (k := 0) rfl
          simp only [List.getElem_toArray, List.getElem_cons_zero] at z0
          have z4 := XB6.out.cell (k := 4) rfl
          simp only [List.getElem_toArray, List.getElem_cons_zero, List.getElem_cons_succ] at z4
          have fz4 := XB6.out.frozen 4
          have m4 := cellG BV6.out m4r.out
          have z5 := XB6.out.cell (k := 5) rfl
          simp only [List.getElem_toArray, List.getElem_cons_zero, List.getElem_cons_succ] at z5
          have fz5 := XB6.out.frozen 5
          have m5 := cellG BV6.out m5r.out
          have z6 := XB6.out.cell (k := 6) rfl
          simp only [List.getElem_toArray, List.getElem_cons_zero, List.getElem_cons_succ] at z6
          have fz6 := XB6.out.frozen 6
          have m6 := cellG BV6.out m6r.out
          go_upto_region 14 with fail
          have x9 := XB6.out.set 4 (.string (str fn))
          have x9 := (x9.set 5 (.int .i64 fp)).set 6 (.int .i64 fa)
          simp only [List.setIfInBounds_toArray, List.set_cons_zero, List.set_cons_succ] at x9
          have b9 := (((BV6.out).setCell (p := ⟨bx, 4, none⟩) hxw (.string (str fn))).setCell (p := ⟨bx, 5, none⟩) hxw (.int .i64 fp)).setCell (p := ⟨bx, 6, none⟩) hxw (.int .i64 fa)
          generalize (((V6.setCell ⟨bx, 4, none⟩ (.string (str fn))).setCell ⟨bx, 5, none⟩ (.int .i64 fp)).setCell ⟨bx, 6, none⟩ (.int .i64 fa)) = V7 at *
          have XB7 := hiddenG x9
          have BV7 := hiddenG b9
          clear x9 b9 y1 z0 XB6 z4 fz4 m4 z5 fz5 m5 z6 fz6 m6
          have FV := hiddenG (FX.out.later BV7.out)
          have INU : Hid (Ints W0.heap.size V7 (.slice none 0 0) []) := World.ownsRow_nil _ _ _ _
          have HNV : Hid (∀ p ∈ M, Ints W0.heap.size V7 p.2 p.1.nums) := fun p hp => (HN.out p hp).below BV7.out
          have bv := (Below.refl V7.heap.size V7).alloc (Nat.le_refl _) (.cells #[.int .u8 4, .string (str xn), .string ⟨#[]⟩, .slice none 0 0, .string (str fn), .int .i64 fp, .int .i64 fa, .string ⟨#[]⟩, .int .i64 0, .int .i64 0, .int .i64 pl] 45)
          have RV := hiddenG (owns_below FV.out.row bv)
          have BV := hiddenG bv
          have CV : Hid (∀ i u, (itP (⟨4, xn, [], [], ⟨fn, fp, fa⟩, noPlc, pl⟩, .slice none 0 0))[i]? = some u → (V7.alloc (.cells #[.int .u8 4, .string (str xn), .string ⟨#[]⟩, .slice none 0 0, .string (str fn), .int .i64 fp, .int .i64 fa, .string ⟨#[]⟩, .int .i64 0, .int .i64 0, .int .i64 pl] 45)).cell? ((⟨V7.heap.size, 0, none⟩ : Addr).add i) = some u) := row11 V7 45 (.int .u8 4) (.string (str xn)) (.string ⟨#[]⟩) (.slice none 0 0) (.string (str fn)) (.int .i64 fp) (.int .i64 fa) (.string ⟨#[]⟩) (.int .i64 0) (.int .i64 0) (.int .i64 pl)
          have LBV : Hid (W0.heap.size ≤ (V7.alloc (.cells #[.int .u8 4, .string (str xn), .string ⟨#[]⟩, .slice none 0 0, .string (str fn), .int .i64 fp, .int .i64 fa, .string ⟨#[]⟩, .int .i64 0, .int .i64 0, .int .i64 pl] 45)).heap.size) := Nat.le_trans FV.out.chg.size bv.size
          clear bv
          have o1 := FV.out.blk.cell (k := 1) rfl
          simp only [List.getElem_toArray, List.getElem_cons_zero, List.getElem_cons_succ] at o1
          have z0 := XB7.out.cell (k := 0) rfl
          have z1 := XB7.out.cell (k := 1) rfl
          have z2 := XB7.out.cell (k := 2) rfl
          have z3 := XB7.out.cell (k := 3) rfl
          have z4 := XB7.out.cell (k := 4) rfl
          have z5 := XB7.out.cell (k := 5) rfl
          have z6 := XB7.out.cell (k := 6) rfl
          have z7 := XB7.out.cell (k := 7) rfl
          have z8 := XB7.out.cell (k := 8) rfl
          have z9 := XB7.out.cell (k := 9) rfl
          have z10 := XB7.out.cell (k := 10) rfl
          simp only [List.getElem_toArray, List.getElem_cons_zero, List.getElem_cons_succ] at z0 z1 z2 z3 z4 z5 z6 z7 z8 z9 z10
          go_wp2_with (at_builtin; refine wpList_append_told _ rfl _ _ 22 rfl W0.heap.size 45 i0 _ 11 136 Try.underlying22 HJ.out HJ0.out HJ1.out HJ2.out rfl (by decide) (.slice d M.length kk) M.length _ rfl RV.out ⟨V7.heap.size, 0, none⟩ 1 1 (by decide) (itP (⟨4, xn, [], [], ⟨fn, fp, fa⟩, noPlc, pl⟩, .slice none 0 0)) rfl rfl CV.out (itP_one _ _ _ _) (by unfold maxLen; omega) (by omega) LBV.out ?_; intro zv u1 hown htold; have hG : ElA (fun _ es => es = itP (⟨4, xn, [], [], ⟨fn, fp, fa⟩, noPlc, pl⟩, .slice none 0 0)) V7 W0.heap.size 45 11 (.slice d M.length kk) M.length _ u1 zv := ⟨itP (⟨4, xn, [], [], ⟨fn, fp, fa⟩, noPlc, pl⟩, .slice none 0 0), _, u1, ⟨BV.out, rfl, hown, htold⟩, Below.refl _ _⟩; obtain ⟨gz, cz, rfl⟩ := hG.shape; have hF := appE_store (f := 1) hG FV.out.blk FV.out.far; have AE := hiddenG hF.1; have o1 := hF.2.cell (k := 1) rfl; have fz := hF.2.frozen 1; simp only [List.getElem_toArray, List.getElem_cons_zero, List.getElem_cons_succ] at o1; clear hown htold hG hF)
          have NS := hiddenG (fun r l hh => FilS.ints FV.out AE.out (r := r) (ns := l) hh)
          obtain ⟨g9, k9, F9⟩ := FV.out.step AE.out
          have F9h := hiddenG F9
          clear F9 AE
          go_roundg (n - (j + 1))
          case measure => omega
          case rel =>
            refine ⟨j + 1, some ⟨g9, 0, none⟩, k9, M ++ [(⟨4, xn, [], [], ⟨fn, fp, fa⟩, noPlc, pl⟩, .slice none 0 0)], by omega, rfl, by first | rfl | go_num, ?_, ?_, ?_⟩
            · rw [TK.out, List.map_append, List.map_append, HM.out]; rfl
            · intro p hp
              rcases List.mem_append.1 hp with h | h
              · exact NS.out _ _ (HNV.out p h)
              · rw [List.mem_singleton.1 h]; exact NS.out _ _ INU.out
            · rw [List.length_append, List.flatMap_append, List.flatMap_singleton]
              exact F9h.out
    · have ej : j = n := by omega
      subst ej
      have hji : ¬ ((j : Int) < (j : Int)) := by omega
      have z0 := FX.out.blk.cell (k := 0) rfl
      have z1 := FX.out.blk.cell (k := 1) rfl
      simp only [List.getElem_toArray, List.getElem_cons_zero, List.getElem_cons_succ] at z0 z1
      have XR := hiddenG (XR0.out.keep (FX.out.keep _ XR0.out.lt hrh))
      have r0 := XR.out.cell (k := 0) rfl
      have r1 := XR.out.cell (k := 1) rfl
      simp only [List.getElem_toArray, List.getElem_cons_zero, List.getElem_cons_succ] at r0 r1
      have fr0 := XR.out.frozen 0
      have fr1 := XR.out.frozen 1
      go_wp2
      have x1 := XR.out.set 0 (.string (str nm))
      have x2 := x1.set 1 (.slice d M.length kk)
      simp only [List.setIfInBounds_toArray, List.set_cons_zero, List.set_cons_succ] at x2
      have u0 := x2.cell (k := 0) rfl
      have u1 := x2.cell (k := 1) rfl
      simp only [List.getElem_toArray, List.getElem_cons_zero, List.getElem_cons_succ] at u0 u1
      have hwl : w.heap.size + 1 < W0.heap.size := XR0.out.lt
      have bw : Below w.heap.size w ((wr.setCell ⟨w.heap.size + 1, 0, none⟩ (.string (str nm))).setCell ⟨w.heap.size + 1, 1, none⟩ (.slice d M.length kk)) := (BW.out.setCell (p := ⟨w.heap.size + 1, 0, none⟩) (Nat.le_succ _) _).setCell (p := ⟨w.heap.size + 1, 1, none⟩) (Nat.le_succ _) _
      have rw_ := row_lie (ownsRow_setCell_below (a := ⟨w.heap.size + 1, 1, none⟩) (ownsRow_setCell_below (a := ⟨w.heap.size + 1, 0, none⟩) FX.out.row hwl (.string (str nm))) hwl (.slice d M.length kk))
      have fin : M.map Prod.fst = (L.map Prod.fst).map cleanI := by rw [HM.out, ← HL.out, List.take_length]
      have sm : ∀ p ∈ M, SmallI p.1 := fun p hp => by
        have q : p.1 ∈ (L.map Prod.fst).map cleanI := by rw [← fin]; exact List.mem_map_of_mem hp
        obtain ⟨x, hx, e⟩ := List.mem_map.1 q
        obtain ⟨y, hy, rfl⟩ := List.mem_map.1 hx
        rw [← e]
        exact clean_small (HZ.out y hy)
      have nu : ∀ p ∈ M, Ints W0.heap.size ((wr.setCell ⟨w.heap.size + 1, 0, none⟩ (.string (str nm))).setCell ⟨w.heap.size + 1, 1, none⟩ (.slice d M.length kk)) p.2 p.1.nums := fun p hp => ((HN.out p hp).put (I := w.heap.size + 1) (k := 0) hwl).put (I := w.heap.size + 1) (k := 1) hwl
      exact bodyPost_ret (v := .agg #[.string (str nm), .slice d M.length kk]) (by simp [results, Try.results14, go_sem, u0, u1]) rfl ⟨d, kk, M, rfl, fin, ⟨rw_, fun p hp => (nu p hp).at5⟩, ⟨fun p hp => ints_argG (nu p hp) (sm p hp).1, fun p hp => (sm p hp).2⟩, bw⟩
end Go.Proofs.Ytokhoigpaanjeaa

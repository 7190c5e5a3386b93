/- Texts of one chain, laid one behind the other. -/
import Derived.Test.YtlnodnkfagehgaaDoorPartSketchBack1
import Derived.Test.YtlnodnkfagehgaaDoorPartSketchBack2
/- A sketch in memory of its own (pianolalaw05.lent). -/
namespace Go.Proofs.YtlnodnkfagehgaaDoor
open Go.ChangeShapes Go.WideShapes Go.ChangeAt Go.RowKit

structure LS (w : World) (nm : List UInt8) (a : Option Addr) (n c : Nat) (L : List (Itm × Value)) (k : Nat) (v : Value) (M : List (Itm × Value)) (wr : World) : Prop where
  b1 : Blk 24 w.heap.size wr #[.string (str nm), .slice a n c]
  b2 : Blk 24 (w.heap.size + 1) wr #[.string ⟨#[]⟩, .slice none 0 0]
  b3 : Blk 24 (w.heap.size + 2) wr #[.string (str nm), v]
  its : Its (w.heap.size + 3) wr v M
  same : M.map Prod.fst = (L.take k).map Prod.fst
  len : M.length = k
  bel : Below w.heap.size w wr
  big : w.heap.size + 3 ≤ wr.heap.size
theorem LS.put {w nm a n c L k v M wr} {L2 : List (Itm × Value)} (h : LS w nm a n c L k v M wr) {w2 w4 : World} {x : Itm} {q v' : Value} {m : Nat} {M' : List (Itm × Value)} {k' : Nat} (hb : Below wr.heap.size wr w2) (hq : Ints m w2 q x.nums) (hm : wr.heap.size ≤ m)
    (ho : w4.ownsRow (w.heap.size + 3) 42 11 v' (M.length + 1) (M.flatMap itP ++ itP (x, q)))
    (ht : (∃ g cap, v = .slice (some ⟨g, 0, none⟩) M.length cap ∧ v' = .slice (some ⟨g, 0, none⟩) (M.length + 1) cap ∧ w2.grownBy w4 (some g)) ∨ (∃ cap, v' = .slice (some ⟨w2.heap.size, 0, none⟩) (M.length + 1) cap ∧ w2.grownBy w4 none))
    (hM : M' = M ++ [(x, q)]) (hs : M'.map Prod.fst = (L2.take k').map Prod.fst) (hk : M'.length = k') : LS w nm a n c L2 k' v' M' (w4.setCell ⟨w.heap.size + 2, 1, none⟩ v') := by
  subst hM
  have hbig := h.big
  have hsz := hb.size
  have i1 := h.its.below hb
  have i2 := i1.app hq (fun k hk => by
    rcases hk with hk | ⟨p, hp, hk⟩
    · have := own_lt h.its.row k hk; omega
    · have := own_lt (h.its.nums p hp) k hk; omega) (by omega) ho ht
  have hg : ∃ row, w2.grownBy w4 row ∧ ∀ k, row = some k → w.heap.size + 3 ≤ k := by
    rcases ht with ⟨g, cap, e, -, hg⟩ | ⟨cap, -, hg⟩
    · refine ⟨_, hg, fun k hk => ?_⟩
      cases hk
      exact own_row h.its.row g (by rw [e]; rfl)
    · exact ⟨_, hg, fun k hk => by cases hk⟩
  obtain ⟨row, hg, hrow⟩ := hg
  have ne : ∀ d, d < w.heap.size + 3 → some d ≠ row := fun d hd e => by have := hrow d e.symm; omega
  have b3 := ((h.b3.below hb).grown hg (ne _ (by omega))).set 1 v'
  refine ⟨((h.b1.below hb).grown hg (ne _ (by omega))).other (by omega) _, ((h.b2.below hb).grown hg (ne _ (by omega))).other (by omega) _, b3, i2.put (by omega), hs, hk, ?_, ?_⟩
  · have h1 : Below w.heap.size w w2 := h.bel.trans (hb.mono h.bel.size)
    exact (below_grownO h1 hg (fun k hk => by have := hrow k hk; omega) h1.size).setCell (p := ⟨w.heap.size + 2, 1, none⟩) (by show w.heap.size ≤ w.heap.size + 2; omega) _
  · have := hg.size
    simp
    omega
theorem LS.blk3 {w nm a n c L k v M wr} (h : LS w nm a n c L k v M wr) {w2 w4 : World} {v' : Value} {t : Nat} (hb : Below wr.heap.size wr w2)
    (ht : (∃ g cap, v = .slice (some ⟨g, 0, none⟩) t cap ∧ v' = .slice (some ⟨g, 0, none⟩) (t + 1) cap ∧ w2.grownBy w4 (some g)) ∨ (∃ cap, v' = .slice (some ⟨w2.heap.size, 0, none⟩) (t + 1) cap ∧ w2.grownBy w4 none)) :
    Blk 24 (w.heap.size + 2) w4 #[.string (str nm), v] ∧ ∃ x y, v' = .slice x (t + 1) y := by
  rcases ht with ⟨g, cap, e, e2, hg⟩ | ⟨cap, e2, hg⟩
  · refine ⟨(h.b3.below hb).grown hg (fun q => ?_), _, _, e2⟩
    have := own_row h.its.row g (by rw [e]; rfl)
    have := Option.some.inj q
    omega
  · exact ⟨(h.b3.below hb).grown hg (fun q => by cases q), _, _, e2⟩
theorem LS.blks {w nm a n c L k v M wr} (h : LS w nm a n c L k v M wr) {w2 w4 : World} {v' : Value} {t : Nat} (hb : Below wr.heap.size wr w2)
    (ht : (∃ g cap, v = .slice (some ⟨g, 0, none⟩) t cap ∧ v' = .slice (some ⟨g, 0, none⟩) (t + 1) cap ∧ w2.grownBy w4 (some g)) ∨ (∃ cap, v' = .slice (some ⟨w2.heap.size, 0, none⟩) (t + 1) cap ∧ w2.grownBy w4 none)) :
    Blk 24 w.heap.size w4 #[.string (str nm), .slice a n c] ∧ Blk 24 (w.heap.size + 1) w4 #[.string ⟨#[]⟩, .slice none 0 0] := by
  rcases ht with ⟨g, cap, e, e2, hg⟩ | ⟨cap, e2, hg⟩
  · have := own_row h.its.row g (by rw [e]; rfl)
    exact ⟨(h.b1.below hb).grown hg (fun q => by have := Option.some.inj q; omega), (h.b2.below hb).grown hg (fun q => by have := Option.some.inj q; omega)⟩
  · exact ⟨(h.b1.below hb).grown hg (fun q => by cases q), (h.b2.below hb).grown hg (fun q => by cases q)⟩
theorem row_cap {w : World} {base e size n m cap : Nat} {a : Option Addr} {xs : List Value} (h : w.ownsRow base e size (.slice a n cap) m xs) (h0 : 0 < m) : m ≤ cap := by
  rcases h.2 with ⟨-, h2⟩ | ⟨g, c, cur, hv, -, -, hc, -⟩
  · omega
  · cases hv; exact hc
theorem ItR.pre {w a L M} (h : ItR w a (L ++ M)) : ItR w a L := by
  refine ⟨?_, fun p hp => h.nums p (List.mem_append_left _ hp)⟩
  rcases h.lie with h0 | ⟨g, off, e, hc⟩
  · exact .inl (List.append_eq_nil_iff.1 h0).1
  · refine .inr ⟨g, off, e, fun k hk => ?_⟩
    have := hc k (by rw [List.length_append]; omega)
    unfold nthI at this ⊢
    rw [List.getD_eq_getElem?_getD, List.getElem?_append_left hk] at this
    rw [List.getD_eq_getElem?_getD]
    exact this
def markI : Itm := ⟨99, [109, 97, 114, 107], [], [], noPlc, noPlc, 0⟩
theorem row11 (W : World) (T : TypeId) (c0 c1 c2 c3 c4 c5 c6 c7 c8 c9 c10 : Value) : ∀ j u, [c0, c1, c2, c3, c4, c5, c6, c7, c8, c9, c10][j]? = some u → (W.alloc (.cells #[c0, c1, c2, c3, c4, c5, c6, c7, c8, c9, c10] T)).cell? ((⟨W.heap.size, 0, none⟩ : Addr).add j) = some u := by
  intro j u hu
  rw [add_zero5]
  have h := blk_new T W #[c0, c1, c2, c3, c4, c5, c6, c7, c8, c9, c10]
  exact h.cell (k := j) (by rw [← hu]; simp)
theorem ints_arg {w : World} {b : Option Addr} {d : Nat} {ns : List Int} (h : IntsAt w (.slice b ns.length d) ns) (hn : b = none → ns.length = 0 ∧ d = 0) (hd : ns.length ≤ d) (hr : ns.length ≤ 1048576) (hf : ∀ x ∈ ns, -9223372036854775808 ≤ x ∧ x ≤ 9223372036854775807) : Arg w b ns.length d ns := by
  obtain ⟨a, c, e, h⟩ := h
  cases e
  refine ⟨rfl, by omega, hn, fun k => ?_, ?_, hd⟩
  · by_cases hk : k < ns.length
    · rw [nth, List.getD_eq_getElem?_getD, List.getElem?_eq_getElem hk]
      exact hf _ (List.getElem_mem hk)
    · rw [nth, List.getD_eq_getElem?_getD, List.getElem?_eq_none (by omega)]
      exact (by decide : (-9223372036854775808 : Int) ≤ 0 ∧ (0 : Int) ≤ 9223372036854775807)
  · rcases h with h | ⟨g, off, e, hc⟩
    · exact .inl h
    · exact .inr ⟨g, off, e, hc⟩
theorem take_oneI {L : List (Itm × Value)} {k : Nat} (h : k < L.length) : (L.take (k + 1)).map Prod.fst = (L.take k).map Prod.fst ++ [(nthI L k).1] := by
  rw [List.take_add_one, List.getElem?_eq_getElem h, List.map_append]
  unfold nthI
  rw [List.getD_eq_getElem?_getD, List.getElem?_eq_getElem h]
  rfl
/-- How the making of a sketch of one's own ends. -/
def LentS (w : World) (nm : List UInt8) (n : Nat) (L : List (Itm × Value)) (e : Ending) (w' : World) : Prop :=
  ∃ a' c' M, e = .returned (.agg #[.string (str nm), .slice a' n c']) ∧ M.map Prod.fst = L.map Prod.fst ∧ M.length = n ∧ ItR w' a' M ∧ Below w.heap.size w w'
set_option maxRecDepth 100000 in
set_option maxHeartbeats 8000000 in
theorem lent5_any (nm : List UInt8) (a : Option Addr) (n c : Nat) (L : List (Itm × Value)) (w : World) (h : ArgS w a n L) (hn : n ≤ 1048576) (hm : ∀ p ∈ L, p.1.nums.length ≤ 1048576) :
    Calls Tryd.prog 9 #[.agg #[.string (str nm), .slice a n c]] w (LentS w nm n L) := by
  have HA := hidden h
  have HL := hidden h.size
  have HM := hidden hm
  obtain ⟨i0, hi, hz0, hz1, hz2⟩ := info_parts Tryd.infoIT
  have HJ := hidden hi
  have HJ0 := hidden hz0
  have HJ1 := hidden hz1
  have HJ2 := hidden hz2
  have hnI : (n : Int) ≤ 1048576 := by omega
  have HS0 : Hid (LS w nm a n c L 0 (.slice none 0 0) [] (((w.alloc (.cells #[.string (str nm), .slice a n c] 24)).alloc (.cells #[.string ⟨#[]⟩, .slice none 0 0] 24)).alloc (.cells #[.string (str nm), .slice none 0 0] 24))) := by
    have q1 := (Below.refl w.heap.size w).alloc (Nat.le_refl _) (.cells #[.string (str nm), .slice a n c] 24)
    have s1 : (w.alloc (.cells #[.string (str nm), .slice a n c] 24)).heap.size = w.heap.size + 1 := by simp
    have s2 : ((w.alloc (.cells #[.string (str nm), .slice a n c] 24)).alloc (.cells #[.string ⟨#[]⟩, .slice none 0 0] 24)).heap.size = w.heap.size + 2 := by simp
    have k1 := blk_new 24 w #[.string (str nm), .slice a n c]
    have k2 := blk_new 24 (w.alloc (.cells #[.string (str nm), .slice a n c] 24)) #[.string ⟨#[]⟩, .slice none 0 0]
    have k3 := blk_new 24 ((w.alloc (.cells #[.string (str nm), .slice a n c] 24)).alloc (.cells #[.string ⟨#[]⟩, .slice none 0 0] 24)) #[.string (str nm), .slice none 0 0]
    rw [s1] at k2
    rw [s2] at k3
    exact ⟨(k1.below ((Below.refl _ _).alloc (Nat.le_refl _) _)).below ((Below.refl _ _).alloc (Nat.le_refl _) _), k2.below ((Below.refl _ _).alloc (Nat.le_refl _) _), k3, its_nil _ _, by simp, rfl, (q1.alloc (by simp) _).alloc (by simp; omega) _, by simp⟩
  clear h hm hi hz0 hz1 hz2
  go_enter Tryd.func9, Tryd.ntmps9
  go_wp2
  go_loopg [4] n (fun gk v wr => ∃ (k : Nat) (va : Option Addr) (vc : Nat) (M : List (Itm × Value)), k ≤ n ∧ gk = n - k ∧ v = .int .i64 (k : Int) ∧ LS w nm a n c L k (.slice va k vc) M wr)
  case atStart => exact ⟨0, none, 0, [], Nat.zero_le _, rfl, rfl, HS0.out⟩
  case round =>
    clear HS0
    obtain ⟨k, va, vc, M, hk, rfl, rfl, hs⟩ := hrel
    have HS := hidden hs
    have HAW := hidden (HA.out.below hs.bel)
    have y1 : wr.cell? ⟨w.heap.size, 1, none⟩ = some (.slice a n c) := hs.b1.cell (k := 1) rfl
    have y3 : wr.cell? ⟨w.heap.size + 2, 1, none⟩ = some (.slice va k vc) := hs.b3.cell (k := 1) rfl
    clear hs
    by_cases hlt : k < n
    · have hki : (k : Int) < (n : Int) := by omega
      rcases HAW.out.lies.lie with e | ⟨g, off, rfl, hc⟩
      · have := HL.out; rw [e] at this; simp at this; omega
      obtain ⟨c0, c1, c2, c3, c4, c5, c6, c7, c8, c9, c10⟩ := hc k (by have := HL.out; omega)
      have hmem := nthI_mem (L := L) (k := k) (by have := HL.out; omega)
      obtain ⟨b, d, e2, hnone, hroom⟩ := HAW.out.shp _ hmem
      have hint := HAW.out.lies.nums _ hmem
      rw [e2] at c3 hint
      have HLE : Hid (∀ W, Below wr.heap.size wr W → Calls Tryd.prog 18 #[.slice b (nthI L k).1.nums.length d] W (fun e w' => ∃ g, e = .returned (.slice (some ⟨g, 0, none⟩) (nthI L k).1.nums.length ((nthI L k).1.nums.length + 4)) ∧ Below W.heap.size W w' ∧ Ints W.heap.size w' (.slice (some ⟨g, 0, none⟩) (nthI L k).1.nums.length ((nthI L k).1.nums.length + 4)) (nthI L k).1.nums)) := fun W hb =>
        (lent_full b (nthI L k).1.nums (nthI L k).1.nums.length d W (ints_arg (hint.below hb) hnone hroom (HM.out _ hmem) (HAW.out.fits _ hmem).2.2)).mono fun e w' ⟨g, h1, _, h3, h4⟩ => ⟨g, h1, h3, h4⟩
      have HTK : Hid ((L.take (k + 1)).map Prod.fst = (L.take k).map Prod.fst ++ [(nthI L k).1])   := take_oneI (by have := HL.out; omega)
      clear hc e2 hint hmem hnone hroom
      generalize (nthI L k).1 = x at *
      obtain ⟨ki, xn, xt, ns, ⟨fn, fp, fa⟩, ⟨tn, tp, ta⟩, pl⟩ := x
      simp only at c0 c1 c2 c3 c4 c5 c6 c7 c8 c9 c10 HLE
      generalize hnl : ns.length = nl at *
      have HNL := hidden hnl
      clear hnl
      go_wp2_with (first
        | (at_builtin; refine wpList_append_told _ rfl _ _ 22 rfl (w.heap.size + 3) 42 i0 (.agg #[.int .u8 0, .string ⟨#[]⟩, .string ⟨#[]⟩, .slice none 0 0, .string ⟨#[]⟩, .int .i64 0, .int .i64 0, .string ⟨#[]⟩, .int .i64 0, .int .i64 0, .int .i64 0]) 11 136 Tryd.underlying22 HJ.out HJ0.out HJ1.out HJ2.out rfl (by decide) (.slice va k vc) k (M.flatMap itP) rfl (by have q := (HS.out.its.below ((HB2.out.setCell (p := ⟨wr.heap.size, 3, none⟩) (Nat.le_refl _) (.slice (some ⟨gl, 0, none⟩) nl (nl + 4))).alloc (by have := HB2.out.size; simp; omega) (.cells #[.int .u8 ki, .string (str xn), .string (str xt), .slice (some ⟨gl, 0, none⟩) nl (nl + 4), .string (str fn), .int .i64 fp, .int .i64 fa, .string (str tn), .int .i64 tp, .int .i64 ta, .int .i64 pl] 42))).row; rw [HS.out.len] at q; exact q) ⟨w2.heap.size, 0, none⟩ 1 1 (by decide) (itP (⟨ki, xn, xt, ns, ⟨fn, fp, fa⟩, ⟨tn, tp, ta⟩, pl⟩, .slice (some ⟨gl, 0, none⟩) nl (nl + 4))) rfl rfl (by have q := row11 (w2.setCell ⟨wr.heap.size, 3, none⟩ (.slice (some ⟨gl, 0, none⟩) nl (nl + 4))) 42 (.int .u8 ki) (.string (str xn)) (.string (str xt)) (.slice (some ⟨gl, 0, none⟩) nl (nl + 4)) (.string (str fn)) (.int .i64 fp) (.int .i64 fa) (.string (str tn)) (.int .i64 tp) (.int .i64 ta) (.int .i64 pl); have e9 : (w2.setCell ⟨wr.heap.size, 3, none⟩ (.slice (some ⟨gl, 0, none⟩) nl (nl + 4))).heap.size = w2.heap.size := (by simp); rw [e9] at q; exact q) (itP_one _ _ _ _) (by unfold maxLen; omega) (by omega) (by have := HB2.out.size; have := HS.out.big; simp; omega) ?_; intro v4 w4 ho ht; have HO := hidden ho; have HT := hidden ht; obtain ⟨hbk, va4, vc4, rfl⟩ := HS.out.blk3 ((HB2.out.setCell (p := ⟨wr.heap.size, 3, none⟩) (Nat.le_refl _) (.slice (some ⟨gl, 0, none⟩) nl (nl + 4))).alloc (by have := HB2.out.size; simp; omega) (.cells #[.int .u8 ki, .string (str xn), .string (str xt), .slice (some ⟨gl, 0, none⟩) nl (nl + 4), .string (str fn), .int .i64 fp, .int .i64 fa, .string (str tn), .int .i64 tp, .int .i64 ta, .int .i64 pl] 42)) ht; have z1 : w4.cell? ⟨w.heap.size + 1 + 1, 1, none⟩ = some (.slice va k vc) := hbk.cell (k := 1) rfl; have z2 : w4.frozen? ⟨w.heap.size + 1 + 1, 1, none⟩ = false := hbk.frozen 1; clear ho ht hbk)
        | (go_at_call 18; (with_reducible refine (HLE.out _ ((Below.refl _ _).alloc (Nat.le_refl _) _)).mono ?_); rintro e w2 ⟨gl, rfl, b2, hI⟩; have BK := hidden ((blk_new 42 wr #[.int .u8 ki, .string (str xn), .string (str xt), .slice b nl d, .string (str fn), .int .i64 fp, .int .i64 fa, .string (str tn), .int .i64 tp, .int .i64 ta, .int .i64 pl]).below b2); have HI2 := hidden hI; have HB2 : Hid (Below wr.heap.size wr w2) := ((Below.refl wr.heap.size wr).alloc (Nat.le_refl _) _).trans (b2.mono (by simp)); have f3 := BK.out.frozen 3; have j3 : w2.cell? ⟨w.heap.size + 1 + 1, 1, none⟩ = some (.slice va k vc) := cell_keep HB2.out y3; have ne1 : ¬ (w.heap.size + 1 + 1 = wr.heap.size) := (by have := HS.out.big; omega); have ne2 : ¬ (wr.heap.size = w.heap.size + 1 + 1) := (by have := HS.out.big; omega); have k0 : w2.cell? ⟨wr.heap.size, 0, none⟩ = some (.int .u8 ki) := BK.out.cell (k := 0) rfl; have k1 : w2.cell? ⟨wr.heap.size, 1, none⟩ = some (.string (str xn)) := BK.out.cell (k := 1) rfl; have k2 : w2.cell? ⟨wr.heap.size, 2, none⟩ = some (.string (str xt)) := BK.out.cell (k := 2) rfl; have k3 : w2.cell? ⟨wr.heap.size, 3, none⟩ = some (.slice b nl d) := BK.out.cell (k := 3) rfl; have k4 : w2.cell? ⟨wr.heap.size, 4, none⟩ = some (.string (str fn)) := BK.out.cell (k := 4) rfl; have k5 : w2.cell? ⟨wr.heap.size, 5, none⟩ = some (.int .i64 fp) := BK.out.cell (k := 5) rfl; have k6 : w2.cell? ⟨wr.heap.size, 6, none⟩ = some (.int .i64 fa) := BK.out.cell (k := 6) rfl; have k7 : w2.cell? ⟨wr.heap.size, 7, none⟩ = some (.string (str tn)) := BK.out.cell (k := 7) rfl; have k8 : w2.cell? ⟨wr.heap.size, 8, none⟩ = some (.int .i64 tp) := BK.out.cell (k := 8) rfl; have k9 : w2.cell? ⟨wr.heap.size, 9, none⟩ = some (.int .i64 ta) := BK.out.cell (k := 9) rfl; have k10 : w2.cell? ⟨wr.heap.size, 10, none⟩ = some (.int .i64 pl) := BK.out.cell (k := 10) rfl; clear b2 hI))
      go_roundg (n - (k + 1))
      case measure => omega
      case rel =>
        refine ⟨k + 1, va4, vc4, M ++ [(⟨ki, xn, xt, ns, ⟨fn, fp, fa⟩, ⟨tn, tp, ta⟩, pl⟩, .slice (some ⟨gl, 0, none⟩) nl (nl + 4))], by omega, rfl, by go_num, ?_⟩
        have hl := HS.out.len
        refine HS.out.put ((HB2.out.setCell (p := ⟨wr.heap.size, 3, none⟩) (Nat.le_refl _) (.slice (some ⟨gl, 0, none⟩) nl (nl + 4))).alloc (by have := HB2.out.size; simp; omega) (.cells #[.int .u8 ki, .string (str xn), .string (str xt), .slice (some ⟨gl, 0, none⟩) nl (nl + 4), .string (str fn), .int .i64 fp, .int .i64 fa, .string (str tn), .int .i64 tp, .int .i64 ta, .int .i64 pl] 42)) (x := ⟨ki, xn, xt, ns, ⟨fn, fp, fa⟩, ⟨tn, tp, ta⟩, pl⟩) (q := .slice (some ⟨gl, 0, none⟩) nl (nl + 4)) (m := wr.heap.size + 1) ?_ (by omega) (by rw [hl]; exact HO.out) (by rw [hl]; exact HT.out) rfl (by rw [List.map_append, HS.out.same, HTK.out]; rfl) (by simp; omega)
        have q : Ints (wr.heap.size + 1) w2 (.slice (some ⟨gl, 0, none⟩) nl (nl + 4)) ns := by have := HI2.out; simp at this; exact this
        exact (q.put (by omega)).below ((Below.refl _ _).alloc (Nat.le_refl _) _)
    · have ek : k = n := by omega
      subst ek
      have hki : ¬ ((k : Int) < (k : Int)) := by omega
      have y3' : wr.cell? ⟨w.heap.size + 1 + 1, 1, none⟩ = some (.slice va k vc) := y3
      go_wp2_with (at_builtin; refine wpList_append_told _ rfl _ _ 22 rfl (w.heap.size + 3) 42 i0 (.agg #[.int .u8 0, .string ⟨#[]⟩, .string ⟨#[]⟩, .slice none 0 0, .string ⟨#[]⟩, .int .i64 0, .int .i64 0, .string ⟨#[]⟩, .int .i64 0, .int .i64 0, .int .i64 0]) 11 136 Tryd.underlying22 HJ.out HJ0.out HJ1.out HJ2.out rfl (by decide) (.slice va k vc) k (M.flatMap itP) rfl (by have q := (HS.out.its.below ((Below.refl wr.heap.size wr).alloc (Nat.le_refl _) (.cells #[.int .u8 99, .string ⟨#[109, 97, 114, 107]⟩, .string ⟨#[]⟩, .slice none 0 0, .string ⟨#[]⟩, .int .i64 0, .int .i64 0, .string ⟨#[]⟩, .int .i64 0, .int .i64 0, .int .i64 0] 42))).row; rw [HS.out.len] at q; exact q) ⟨wr.heap.size, 0, none⟩ 1 1 (by decide) (itP (markI, .slice none 0 0)) rfl rfl (row11 wr 42 (.int .u8 99) (.string ⟨#[109, 97, 114, 107]⟩) (.string ⟨#[]⟩) (.slice none 0 0) (.string ⟨#[]⟩) (.int .i64 0) (.int .i64 0) (.string ⟨#[]⟩) (.int .i64 0) (.int .i64 0) (.int .i64 0)) (itP_one _ _ _ _) (by unfold maxLen; omega) (by omega) (by have := HS.out.big; simp; omega) ?_; intro v4 w4 ho ht; have HO := hidden ho; have HT := hidden ht; obtain ⟨hbk, va4, vc4, rfl⟩ := HS.out.blk3 ((Below.refl wr.heap.size wr).alloc (Nat.le_refl _) (.cells #[.int .u8 99, .string ⟨#[109, 97, 114, 107]⟩, .string ⟨#[]⟩, .slice none 0 0, .string ⟨#[]⟩, .int .i64 0, .int .i64 0, .string ⟨#[]⟩, .int .i64 0, .int .i64 0, .int .i64 0] 42)) ht; obtain ⟨hb1, hb2⟩ := HS.out.blks ((Below.refl wr.heap.size wr).alloc (Nat.le_refl _) (.cells #[.int .u8 99, .string ⟨#[109, 97, 114, 107]⟩, .string ⟨#[]⟩, .slice none 0 0, .string ⟨#[]⟩, .int .i64 0, .int .i64 0, .string ⟨#[]⟩, .int .i64 0, .int .i64 0, .int .i64 0] 42)) ht; have hcap := row_cap ho (Nat.succ_pos _); have z0 : w4.cell? ⟨w.heap.size + 1 + 1, 0, none⟩ = some (.string (str nm)) := hbk.cell (k := 0) rfl; have z1 : w4.cell? ⟨w.heap.size + 1 + 1, 1, none⟩ = some (.slice va k vc) := hbk.cell (k := 1) rfl; have z2 : w4.frozen? ⟨w.heap.size + 1 + 1, 1, none⟩ = false := hbk.frozen 1; have x1 : w4.cell? ⟨w.heap.size, 1, none⟩ = some (.slice a k c) := hb1.cell (k := 1) rfl; have u0 : w4.cell? ⟨w.heap.size + 1, 0, none⟩ = some (.string ⟨#[]⟩) := hb2.cell (k := 0) rfl; have u1 : w4.cell? ⟨w.heap.size + 1, 1, none⟩ = some (.slice none 0 0) := hb2.cell (k := 1) rfl; have u2 : w4.frozen? ⟨w.heap.size + 1, 0, none⟩ = false := hb2.frozen 0; have u3 : w4.frozen? ⟨w.heap.size + 1, 1, none⟩ = false := hb2.frozen 1; have cI : (k : Int) ≤ (vc4 : Int) := (by omega); have cJ : (k : Int) + 1 ≤ (vc4 : Int) := (by omega); clear ho ht hbk hb1 hb2)
      have hl := HS.out.len
      have hlen : (M ++ [(markI, Value.slice none 0 0)]).length = k + 1 := by simp; omega
      have E5 : LS w nm a k c (M ++ [(markI, Value.slice none 0 0)]) (k + 1) (.slice va4 (k + 1) vc4) (M ++ [(markI, Value.slice none 0 0)]) (w4.setCell ⟨w.heap.size + 2, 1, none⟩ (.slice va4 (k + 1) vc4)) :=
        HS.out.put ((Below.refl wr.heap.size wr).alloc (Nat.le_refl _) (.cells #[.int .u8 99, .string ⟨#[109, 97, 114, 107]⟩, .string ⟨#[]⟩, .slice none 0 0, .string ⟨#[]⟩, .int .i64 0, .int .i64 0, .string ⟨#[]⟩, .int .i64 0, .int .i64 0, .int .i64 0] 42)) (x := markI) (q := .slice none 0 0) (m := wr.heap.size) (World.ownsRow_nil _ _ _ _) (Nat.le_refl _) (by rw [hl]; exact HO.out) (by rw [hl]; exact HT.out) rfl (by rw [List.take_of_length_le (by omega)]) hlen
      have i7 := ((E5.its.put (I := w.heap.size + 2) (k := 1) (u := .slice va4 k vc4) (by omega)).put (I := w.heap.size + 1) (k := 0) (u := .string (str nm)) (by omega)).put (I := w.heap.size + 1) (k := 1) (u := .slice va4 k vc4) (by omega)
      have r7 := (Its.at5 (c := vc4) (L := M ++ [(markI, Value.slice none 0 0)]) (by rw [hlen]; exact i7)).pre
      refine bodyPost_ret (v := .agg #[.string (str nm), .slice va4 k vc4]) (by simp [results, Tryd.results9, go_sem, u0, u1]) rfl ⟨va4, vc4, M, rfl, ?_, hl, r7, ?_⟩
      · rw [HS.out.same, List.take_of_length_le (by have := HL.out; omega)]
      · exact ((E5.bel.setCell (p := ⟨w.heap.size + 2, 1, none⟩) (by show w.heap.size ≤ w.heap.size + 2; omega) _).setCell (p := ⟨w.heap.size + 1, 0, none⟩) (Nat.le_succ _) _).setCell (p := ⟨w.heap.size + 1, 1, none⟩) (Nat.le_succ _) _
end Go.Proofs.YtlnodnkfagehgaaDoor

/- The walk through the statement SketchBack. -/
namespace Go.Proofs.YtlnodnkfagehgaaDoor
open Go.ChangeShapes Go.WideShapes Go.ChangeAt Go.RowKit

theorem right_bare (x : Itm) : rightX (bareI x) = rightX x := rfl
theorem itemT_bare (x : Itm) : itemT (bareI x) = itemT x := rfl
theorem all_bare (xs : List Itm) : (xs.map bareI).all rightX = xs.all rightX := by
  rw [List.all_map]; rfl
theorem formX_bare (nm : List UInt8) (xs : List Itm) : formX nm (xs.map bareI) = formX nm xs := by
  unfold formX
  rw [List.flatMap_map]; rfl
theorem printX_bare {nm : List UInt8} {xs ys : List Itm} (h : xs.map bareI = ys.map bareI) : printX nm xs = printX nm ys := by
  have h1 : xs.all rightX = ys.all rightX := by rw [← all_bare xs, ← all_bare ys, h]
  have h2 : formX nm xs = formX nm ys := by rw [← formX_bare nm xs, ← formX_bare nm ys, h]
  unfold printX
  rw [h1, h2]
/-- What is printed: nothing and an error, or the one form of items that are right. -/
theorem printX_cases (nm : List UInt8) (xs : List Itm) : (∃ er, printX nm xs = ([], er) ∧ (er = 1 ∨ er = 2)) ∨ (printX nm xs = (formX nm xs, 0) ∧ nameB nm = true ∧ (∀ x ∈ xs, rightX x = true) ∧ (formX nm xs).length ≤ 1048576) := by
  unfold printX
  by_cases h : (xs.all rightX && nameB nm) = true
  · rw [if_pos h]
    by_cases h2 : 1048576 < (formX nm xs).length
    · rw [if_pos h2]; exact .inl ⟨2, rfl, .inr rfl⟩
    · rw [if_neg h2]
      rw [Bool.and_eq_true, List.all_eq_true] at h
      exact .inr ⟨rfl, h.2, h.1, by omega⟩
  · rw [if_neg h]; exact .inl ⟨1, rfl, .inl rfl⟩
theorem ArgS.fitsL {w a n L} (h : ArgS w a n L) (hm : ∀ p ∈ L, p.1.nums.length ≤ 1048576) : ∀ x ∈ L.map Prod.fst, Fits x := by
  intro x hx
  obtain ⟨p, hp, rfl⟩ := List.mem_map.1 hx
  obtain ⟨h1, h2, h3⟩ := h.fits p hp
  exact ⟨small_of h1, small_of h2, fun n hn => small_of (h3 n hn), by have := hm p hp; omega⟩
/-- A sketch of one's own, printed. -/
theorem lent_print {nm : List UInt8} {n : Nat} {L : List (Itm × Value)} {w : World} (hT : Tab w.heap.size w) (hh : n ≤ 1048576 ∧ ∀ p ∈ L, p.1.nums.length ≤ 1048576) (V : World) (a' : Option Addr) (c' : Nat) (M : List (Itm × Value)) (hb : Below w.heap.size w V) (hM : (M.map Prod.fst).map bareI = (L.map Prod.fst).map bareI) (hF : ∀ p ∈ M, Fits p.1) (hl : M.length = n) (hi : ItR V a' M) :
    Calls Tryd.prog 8 #[.agg #[.string (str nm), .slice a' n c']] V fun e w' => e = .returned (.tuple #[.string (str (printX nm (L.map Prod.fst)).1), .int .i64 (printX nm (L.map Prod.fst)).2]) ∧ Below V.heap.size V w' := by
  have := print_any nm a' n c' M V hl hi (by omega) hF (hT.on5 hb)
  rw [print_items, printX_bare hM] at this
  exact this
theorem lent_fits {a : Option Addr} {n : Nat} {L M : List (Itm × Value)} {w : World} (h : ArgS w a n L) (hm : ∀ p ∈ L, p.1.nums.length ≤ 1048576) (hM : M.map Prod.fst = L.map Prod.fst) : ∀ p ∈ M, Fits p.1 := fun p hp =>
  h.fitsL hm p.1 (by rw [← hM]; exact List.mem_map_of_mem hp)
set_option maxRecDepth 100000 in
set_option maxHeartbeats 4000000 in
theorem sback_no (nm : List UInt8) (a : Option Addr) (n c : Nat) (L : List (Itm × Value)) (w : World) (h : ArgS w a n L) (hE : Env w) (hT : Tab w.heap.size w) (er : Int) (hp : printX nm (L.map Prod.fst) = ([], er)) (her : er = 1 ∨ er = 2) :
    Calls Tryd.prog 3 #[.agg #[.string (str nm), .slice a n c]] w fun e w' => e = .returned (.bool true) ∧ Below w.heap.size w w' := by
  have B0 := hidden ((Below.refl w.heap.size w).alloc (Nat.le_refl _) (.cells #[.string (str nm), .slice a n c] 24))
  have AW : Hid (∀ W, Below w.heap.size w W → Calls Tryd.prog 10 #[] W fun e w' => e = .returned (.bool true) ∧ Below W.heap.size W w') := fun W hb => awake5 W (hE.below hb) (hT.on5 hb)
  have A1 : Hid (∀ W, Below w.heap.size w W → Calls Tryd.prog 7 #[.agg #[.string (str nm), .slice a n c]] W (HeavyEnd W n L)) := fun W hb => heavy_any nm a n c L W (h.below hb)
  have A2 : Hid (∀ W, Below w.heap.size w W → (n ≤ 1048576 ∧ ∀ p ∈ L, p.1.nums.length ≤ 1048576) → Calls Tryd.prog 9 #[.agg #[.string (str nm), .slice a n c]] W (LentS W nm n L)) := fun W hb hh => lent5_any nm a n c L W (h.below hb) hh.1 hh.2
  have A3 : Hid (∀ V a' c' M, Below w.heap.size w V → (n ≤ 1048576 ∧ ∀ p ∈ L, p.1.nums.length ≤ 1048576) → M.map Prod.fst = L.map Prod.fst → M.length = n → ItR V a' M → Calls Tryd.prog 8 #[.agg #[.string (str nm), .slice a' n c']] V fun e w' => e = .returned (.tuple #[.string ⟨#[]⟩, .int .i64 er]) ∧ Below V.heap.size V w') := fun V a' c' M hb hh hM hl hi => by
    have := lent_print (nm := nm) hT hh V a' c' M hb (by rw [hM]) (lent_fits h hh.2 hM) hl hi
    rw [hp] at this
    exact this
  have s1 := str_nil
  clear h hE hT hp
  rcases her with rfl | rfl
  all_goals
    go_enter Tryd.func3, Tryd.ntmps3
    go_wp2_with (go_at_call 7; (with_reducible refine (A1.out _ B0.out).mono ?_); rintro e w1 ⟨b, rfl, hh, b1⟩; have HH := hidden hh; have B1 := hidden (B0.out.trans (b1.mono B0.out.size)); have x0 : w1.cell? ⟨w.heap.size, 0, none⟩ = some (.string (str nm)) := cell_keep b1 (by simp); have x1 : w1.cell? ⟨w.heap.size, 1, none⟩ = some (.slice a n c) := cell_keep b1 (by simp); clear b1 hh)
    · go_wp2
      go_ret
      exact ⟨by first | rfl | simp, B1.out⟩
    · have HQ := hidden (HH.out (by assumption))
      clear HH
      go_wp2_with (first
        | (go_at_call 10; (with_reducible refine (AW.out _ B3.out).mono ?_); rintro e w4 ⟨rfl, b4⟩)
        | (go_at_call 8; (with_reducible refine (A3.out _ _ _ M B2.out HQ.out HM.out HL.out HI.out).mono ?_); rintro e w3 ⟨rfl, b3⟩; have B3 := hidden (B2.out.trans (b3.mono B2.out.size)); clear b3)
        | (go_at_call 9; (with_reducible refine (A2.out _ B1.out HQ.out).mono ?_); rintro e w2 ⟨a', c', M, rfl, hM, hl, hi, b2⟩; have HM := hidden hM; have HL := hidden hl; have HI := hidden hi; have B2 := hidden (B1.out.trans (b2.mono B1.out.size)); clear hM hl hi b2))
      go_ret
      exact ⟨by first | rfl | simp, B3.out.trans (b4.mono B3.out.size)⟩
set_option maxRecDepth 100000 in
set_option maxHeartbeats 8000000 in
theorem sback_yes (nm : List UInt8) (a : Option Addr) (n c : Nat) (L : List (Itm × Value)) (w : World) (h : ArgS w a n L) (hE : Env w) (hT : Tab w.heap.size w) (hp : printX nm (L.map Prod.fst) = (formX nm (L.map Prod.fst), 0)) (hn : nameB nm = true) (hx : ∀ x ∈ L.map Prod.fst, rightX x = true) (hlen : (formX nm (L.map Prod.fst)).length ≤ 1048576) :
    Calls Tryd.prog 3 #[.agg #[.string (str nm), .slice a n c]] w fun e w' => e = .returned (.bool true) ∧ Below w.heap.size w w' := by
  have B0 := hidden ((Below.refl w.heap.size w).alloc (Nat.le_refl _) (.cells #[.string (str nm), .slice a n c] 24))
  have AW : Hid (∀ W, Below w.heap.size w W → Calls Tryd.prog 10 #[] W fun e w' => e = .returned (.bool true) ∧ Below W.heap.size W w') := fun W hb => awake5 W (hE.below hb) (hT.on5 hb)
  have A1 : Hid (∀ W, Below w.heap.size w W → Calls Tryd.prog 7 #[.agg #[.string (str nm), .slice a n c]] W (HeavyEnd W n L)) := fun W hb => heavy_any nm a n c L W (h.below hb)
  have A2 : Hid (∀ W, Below w.heap.size w W → (n ≤ 1048576 ∧ ∀ p ∈ L, p.1.nums.length ≤ 1048576) → Calls Tryd.prog 9 #[.agg #[.string (str nm), .slice a n c]] W (LentS W nm n L)) := fun W hb hh => lent5_any nm a n c L W (h.below hb) hh.1 hh.2
  have A3 : Hid (∀ V a' c' M, Below w.heap.size w V → (n ≤ 1048576 ∧ ∀ p ∈ L, p.1.nums.length ≤ 1048576) → M.map Prod.fst = L.map Prod.fst → M.length = n → ItR V a' M → Calls Tryd.prog 8 #[.agg #[.string (str nm), .slice a' n c']] V fun e w' => e = .returned (.tuple #[.string (str (formX nm (L.map Prod.fst))), .int .i64 0]) ∧ Below V.heap.size V w') := fun V a' c' M hb hh hM hl hi => by
    have := lent_print (nm := nm) hT hh V a' c' M hb (by rw [hM]) (lent_fits h hh.2 hM) hl hi
    rw [hp] at this
    exact this
  have A4 : Hid (∀ V, Below w.heap.size w V → (n ≤ 1048576 ∧ ∀ p ∈ L, p.1.nums.length ≤ 1048576) → Calls Tryd.prog 11 #[.string (str (formX nm (L.map Prod.fst)))] V fun e w' => ∃ a c M, e = .returned (.tuple #[.agg #[.string (str nm), .slice a n c], .agg #[.int .i64 0, .int .i64 0]]) ∧ (M.map Prod.fst).map bareI = (L.map Prod.fst).map bareI ∧ (∀ p ∈ M, Fits p.1) ∧ M.length = n ∧ ItR w' a M ∧ Below V.heap.size V w') := fun V hV hh => by
    obtain ⟨r1, s', j', r2, r3⟩ := read_form hn (fun x q => ⟨hx x q, fitsX_of (h.fitsL hh.2 x q)⟩) (by rw [formX_txt]; exact hlen)
    rw [formX_txt] at r1 r2
    have en : (bareS s').name = nm := by rw [r3]
    have ei : (bareS s').items = (L.map Prod.fst).map bareI := by rw [r3]
    have en : s'.name = nm := en
    have ei : s'.items.map bareI = (L.map Prod.fst).map bareI := ei
    have el : s'.items.length = n := by have := congrArg List.length ei; have h2 := h.size; simp at this; omega
    have hfit := text_fits r2
    refine (parse_yes V (hE.below hV) r1 r2).mono fun e w' ⟨a, c, M, q1, q2, q3, q4, _, q6⟩ => ?_
    rw [en, el] at q1
    exact ⟨a, c, M, q1, by rw [← q2, ei], fun p hp => hfit p.1 (by rw [q2]; exact List.mem_map_of_mem hp), by rw [q3, el], q4, q6⟩
  have A5 : Hid (∀ V a' c' M, Below w.heap.size w V → (n ≤ 1048576 ∧ ∀ p ∈ L, p.1.nums.length ≤ 1048576) → (M.map Prod.fst).map bareI = (L.map Prod.fst).map bareI → (∀ p ∈ M, Fits p.1) → M.length = n → ItR V a' M → Calls Tryd.prog 8 #[.agg #[.string (str nm), .slice a' n c']] V fun e w' => e = .returned (.tuple #[.string (str (formX nm (L.map Prod.fst))), .int .i64 0]) ∧ Below V.heap.size V w') := fun V a' c' M hb hh hM hF hl hi => by
    have := lent_print (nm := nm) hT hh V a' c' M hb hM hF hl hi
    rw [hp] at this
    exact this
  have AL : Hid (∀ V a2 c2 M, Below w.heap.size w V → (n ≤ 1048576 ∧ ∀ p ∈ L, p.1.nums.length ≤ 1048576) → (M.map Prod.fst).map bareI = (L.map Prod.fst).map bareI → M.length = n → ItR V a2 M → Calls Tryd.prog 12 #[.agg #[.string (str nm), .slice a n c], .agg #[.string (str nm), .slice a2 n c2]] V fun e w' => e = .returned (.bool true) ∧ Below V.heap.size V w') := fun V a2 c2 M hb hh hM hl hi =>
    alike_any nm a a2 n c c2 L M V h.size hl hM.symm (h.lies.below hb) hi (by omega) (fun p q => by have := hh.2 p q; omega)
  have s1 := str_nil
  clear h hE hT hp hn hx hlen
  generalize formX nm (L.map Prod.fst) = FT at *
  go_enter Tryd.func3, Tryd.ntmps3
  go_wp2_with (go_at_call 7; (with_reducible refine (A1.out _ B0.out).mono ?_); rintro e w1 ⟨b, rfl, hh, b1⟩; have HH := hidden hh; have B1 := hidden (B0.out.trans (b1.mono B0.out.size)); have x0 : w1.cell? ⟨w.heap.size, 0, none⟩ = some (.string (str nm)) := cell_keep b1 (by simp); have x1 : w1.cell? ⟨w.heap.size, 1, none⟩ = some (.slice a n c) := cell_keep b1 (by simp); clear b1 hh)
  · go_wp2
    go_ret
    exact ⟨by first | rfl | simp, B1.out⟩
  · have HQ := hidden (HH.out (by assumption))
    clear HH
    go_wp2_with (first
      | (go_at_call 12; (with_reducible refine (AL.out _ _ _ P B6.out HQ.out P1.out P3.out P6.out).mono ?_); rintro e w7 ⟨rfl, b7⟩)
      | (go_at_call 10; (with_reducible refine (AW.out _ B5.out).mono ?_); rintro e w6 ⟨rfl, b6⟩; have B6 := hidden (B5.out.trans (b6.mono B5.out.size)); have P6 := hidden (P5.out.below b6); have t0 := cell_keep b6 y0; have t1 := cell_keep b6 y1; have t2 := cell_keep b6 y2; have t3 := cell_keep b6 y3; have t4 := cell_keep b6 y4; have t5 := cell_keep b6 y5; clear b6 y0 y1 y2 y3 y4 y5)
      | (go_at_call 8; (with_reducible refine (A5.out _ _ _ P (B4.out _ _) HQ.out P1.out P2.out P3.out (P4.out _ _)).mono ?_); rintro e w5 ⟨rfl, b5⟩; have B5 := hidden ((B4.out _ _).trans (b5.mono (B4.out _ _).size)); have P5 := hidden ((P4.out _ _).below b5); have y0 : w5.cell? ⟨w.heap.size, 0, none⟩ = some (.string (str nm)) := cell_keep b5 (z0 _ _); have y1 : w5.cell? ⟨w.heap.size, 1, none⟩ = some (.slice a n c) := cell_keep b5 (z1 _ _); have y2 : w5.cell? ⟨w4.heap.size, 0, none⟩ = some (.string (str nm)) := cell_keep b5 (by simp); have y3 : w5.cell? ⟨w4.heap.size, 1, none⟩ = some (.slice a2 n c2) := cell_keep b5 (by simp); have y4 : w5.cell? ⟨w4.heap.size + 1, 0, none⟩ = some (.int .i64 0) := cell_keep b5 (by simp); have y5 : w5.cell? ⟨w4.heap.size + 1, 1, none⟩ = some (.int .i64 0) := cell_keep b5 (by simp); clear b5 z0 z1)
      | (go_at_call 11; (with_reducible refine (A4.out _ B3.out HQ.out).mono ?_); rintro e w4 ⟨a2, c2, P, rfl, p1, p2, p3, p4, b4⟩; have P1 := hidden p1; have P2 := hidden p2; have P3 := hidden p3; have z0 := later2 b4 v0; have z1 := later2 b4 v1; have N4 : Hid (∀ o1 o2, Below w4.heap.size w4 ((w4.alloc o1).alloc o2)) := fun o1 o2 => ((Below.refl _ _).alloc (Nat.le_refl _) o1).alloc (by simp) o2; have B4 : Hid (∀ o1 o2, Below w.heap.size w ((w4.alloc o1).alloc o2)) := fun o1 o2 => by { have q := B3.out.trans (b4.mono B3.out.size); exact q.trans ((N4.out o1 o2).mono q.size) }; have P4 : Hid (∀ o1 o2, ItR ((w4.alloc o1).alloc o2) a2 P) := fun o1 o2 => p4.below (N4.out o1 o2); clear p1 p2 p3 p4 b4 v0 v1)
      | (go_at_call 8; (with_reducible refine (A3.out _ _ _ M B2.out HQ.out HM.out HL.out HI.out).mono ?_); rintro e w3 ⟨rfl, b3⟩; have B3 := hidden (B2.out.trans (b3.mono B2.out.size)); have v0 := cell_keep b3 u0; have v1 := cell_keep b3 u1; clear b3 u0 u1)
      | (go_at_call 9; (with_reducible refine (A2.out _ B1.out HQ.out).mono ?_); rintro e w2 ⟨a', c', M, rfl, hM, hl, hi, b2⟩; have HM := hidden hM; have HL := hidden hl; have HI := hidden hi; have B2 := hidden (B1.out.trans (b2.mono B1.out.size)); have u0 := cell_keep b2 x0; have u1 := cell_keep b2 x1; clear hM hl hi b2 x0 x1))
    go_ret
    exact ⟨by first | rfl | simp, B6.out.trans (b7.mono B6.out.size)⟩
theorem sketchBack_walk (nm : List UInt8) (a : Option Addr) (n c : Nat) (L : List (Itm × Value)) (w : World) (h : ArgS w a n L) (hE : Env w) (hT : Tab w.heap.size w) :
    Calls Tryd.prog 3 #[.agg #[.string (str nm), .slice a n c]] w fun e w' => e = .returned (.bool true) ∧ Below w.heap.size w w' := by
  rcases printX_cases nm (L.map Prod.fst) with ⟨er, h1, h2⟩ | ⟨h1, h2, h3, h4⟩
  · exact sback_no nm a n c L w h hE hT er h1 h2
  · exact sback_yes nm a n c L w h hE hT h1 h2 h3 h4
end Go.Proofs.YtlnodnkfagehgaaDoor
